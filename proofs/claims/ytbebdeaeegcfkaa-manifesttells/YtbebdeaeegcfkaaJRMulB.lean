/-
  Joined: RMulB WholeB WholeD WholeE WKit Boxes Drawn DrawnK XAdd XProg XLists XDoc XWords XKnown XRoom.
-/
import Derived.Test.YtbebdeaeegcfkaaJHalves
import Derived.Deep.DeepCutAuto
import Derived.Test.YtbebdeaeegcfkaaJRefD
import Derived.Deep.RegionWith
import Derived.Deep.RegionHeld3
import Derived.Test.YtbebdeaeegcfkaaJRefA
import Derived.Laws.Rows
import Derived.Test.YtbebdeaeegcfkaaKit
import Derived.Test.YtbebdeaeegcfkaaJWiden
import Derived.OrdersHeld
import Derived.Lib.SliceRun
import Derived.Lib.AppendZeros
import Derived.Lib.AppendZerosOnto
import Derived.KernelRfl
namespace Go.Proofs.Ytbebdeaeegcfkaa
open Go.RowKit
theorem two_cells {W W' : World} {g N : Nat} {u v : Value} {t : TypeId} (hh : W.heap[g]? = some (.cells #[u, v] t (0, 0))) (hb : Below N W W') (hg : g < N) :
    W'.cell? ⟨g, 0, none⟩ = some u ∧ W'.cell? ⟨g, 1, none⟩ = some v ∧ W'.frozen? ⟨g, 0, none⟩ = false ∧ W'.frozen? ⟨g, 1, none⟩ = false := by
  have h := (hb.block g hg).trans hh
  exact ⟨cell_of_heap h 0, cell_of_heap h 1, frozen_of_heap h 0, frozen_of_heap h 1⟩
end Go.Proofs.Ytbebdeaeegcfkaa
namespace Go.Proofs.Ytbebdeaeegcfkaa
open Go.RowKit
end Go.Proofs.Ytbebdeaeegcfkaa
namespace Go.Proofs.Ytbebdeaeegcfkaa
open Go.RowKit
theorem turned2 {W : World} {g : Nat} {u v : Value} {t : TypeId} (u' v' : Value) (hh : W.heap[g]? = some (.cells #[u, v] t (0, 0))) : ((W.setCell ⟨g, 0, none⟩ u').setCell ⟨g, 1, none⟩ v').heap[g]? = some (.cells #[u', v'] t (0, 0)) := by
  have h1 := heap_setCell_same W g 0 _ t u' hh
  have h2 := heap_setCell_same _ g 1 _ t v' h1
  exact h2
end Go.Proofs.Ytbebdeaeegcfkaa
namespace Go.Proofs.Ytbebdeaeegcfkaa
open Go.RowKit
end Go.Proofs.Ytbebdeaeegcfkaa
namespace Go.Proofs.Ytbebdeaeegcfkaa
open Go.RowKit
structure Box (W : World) (k : Nat) (o : Obj) : Prop where
  lt : k < W.heap.size
  what : W.heap[k]? = some o
theorem Box.new (w : World) (o : Obj) : Box (w.alloc o) w.heap.size o := ⟨by simp, World.alloc_heap_new w o⟩
theorem Box.below {W W' : World} {k : Nat} {o : Obj} (h : Box W k o) (hb : Below W.heap.size W W') : Box W' k o := ⟨Nat.lt_of_lt_of_le h.lt hb.size, (hb.block k h.lt).trans h.what⟩
theorem Box.under {W W' : World} {k N : Nat} {o : Obj} (h : Box W k o) (hb : Below N W W') (hk : k < N) : Box W' k o := ⟨Nat.lt_of_lt_of_le h.lt hb.size, (hb.block k hk).trans h.what⟩
theorem Box.above {W W' : World} {k hi : Nat} {o : Obj} (h : Box W k o) (hk : ∀ k, hi ≤ k → W'.heap[k]? = W.heap[k]?) (hs : W.heap.size ≤ W'.heap.size) (hh : hi ≤ k) : Box W' k o := ⟨Nat.lt_of_lt_of_le h.lt hs, (hk k hh).trans h.what⟩
theorem Box.turns {W W' : World} {k g : Nat} {o : Obj} (h : Box W k o) (ht : Turns g W W') (hk : k ≠ g) : Box W' k o := ⟨Nat.lt_of_lt_of_le h.lt ht.below.size, (ht.other k hk h.lt).trans h.what⟩
theorem Box.two {W : World} {k : Nat} {u v : Value} {t : TypeId} (h : Box W k (.cells #[u, v] t (0, 0))) : W.cell? ⟨k, 0, none⟩ = some u ∧ W.cell? ⟨k, 1, none⟩ = some v ∧ W.frozen? ⟨k, 0, none⟩ = false ∧ W.frozen? ⟨k, 1, none⟩ = false := two_cells h.what (Below.refl W.heap.size W) h.lt
theorem Box.set2 {W : World} {k : Nat} {u v : Value} {t : TypeId} (u' v' : Value) (h : Box W k (.cells #[u, v] t (0, 0))) : Box ((W.setCell ⟨k, 0, none⟩ u').setCell ⟨k, 1, none⟩ v') k (.cells #[u', v'] t (0, 0)) := ⟨Nat.lt_of_lt_of_le h.lt (turns2 k W u' v').below.size, turned2 u' v' h.what⟩
theorem Box.drew {W : World} {k : Nat} {o : Obj} (h : Box W k o) : Box W.drew k o := ⟨h.lt, h.what⟩
theorem Box.put {w : World} {k : Nat} (o : Obj) (hk : w.heap.size = k) : Box (w.alloc o) k o := hk ▸ Box.new w o
theorem Box.cells {W : World} {k : Nat} {u v : Value} {t : TypeId} (h : Box W k (.cells #[u, v] t (0, 0))) : W.cell? ⟨k, 0, none⟩ = some u ∧ W.cell? ⟨k, 1, none⟩ = some v := ⟨h.two.1, h.two.2.1⟩
theorem _root_.Go.RowKit.Below.a1 {A B : World} (h : Below A.heap.size A B) (o : Obj) : Below A.heap.size A (B.alloc o) := h.alloc h.size o
theorem below_new (w : World) (o : Obj) : Below w.heap.size w (w.alloc o) := (Below.refl _ _).alloc (Nat.le_refl _) _
def laidIn (ops : Array Oper) (l : Nat → Bool) (vs : Nat → Value) : Nat → Act → Act
  | 0, a => a
  | k + 1, a => match ops[k]? with
    | some o => if l k = true then (laidIn ops l vs k a).put o.dst (vs k) else laidIn ops l vs k a
    | none => laidIn ops l vs k a
def upd {α : Type} (f : Nat → α) (i : Nat) (x : α) : Nat → α := fun j => if j = i then x else f j
def needs (ops : Array Oper) (i j : Nat) : Bool :=
  match ops[i]?, ops[j]? with
  | some o, some o' => (match o'.dst with | some d => (o.looksAt ops).contains d | none => false)
  | _, _ => false
def waitsOn (ops : Array Oper) : Nat → Nat → Nat → Bool
  | 0, _, _ => false
  | f + 1, i, j => match ops[i]? with
    | some o => (o.after.toList.any fun e => Region.binds .any e && e.on == j) || (o.after.toList.any fun e => Region.binds .any e && waitsOn ops f e.on j)
    | none => false
def drawnOk (ops : Array Oper) (nA slots : Nat) : Bool :=
  decide (nA ≤ ops.size) &&
  ((List.range nA).all fun i => match ops[i]? with
    | none => false
    | some o => o.guard.isNone && (match o.op with | .select _ _ => false | _ => true) &&
      (match o.dst with
       | some d => decide (d < slots) && ((List.range nA).all fun k => k == i || (match ops[k]? with | some o' => o'.dst != some d | none => true))
       | none => false) &&
      (o.after.toList.all fun e => !Region.binds .any e || decide (e.on < i)) &&
      ((List.range nA).all fun j => !needs ops i j || (o.after.toList.any fun e => Region.binds .any e && e.on == j))) &&
  ((List.range ops.size).all fun i => decide (i < nA) || (match ops[i]? with
    | some _ => (List.range nA).all fun j => waitsOn ops 9 i j
    | none => true))
structure OpFine (ops : Array Oper) (nA slots i : Nat) (o : Oper) (d : Tmp) : Prop where
  what : ops[i]? = some o
  guard : o.guard = none
  sel : ∀ cs b, o.op ≠ .select cs b
  dst : o.dst = some d
  lt : d < slots
  lone : ∀ k, k < nA → k ≠ i → ∀ o', ops[k]? = some o' → o'.dst ≠ some d
  back : ∀ e ∈ o.after, Region.binds .any e = true → e.on < i
  waits : ∀ j, j < nA → needs ops i j = true → ∃ e ∈ o.after, Region.binds .any e = true ∧ e.on = j
def unlisted (listed : Array Bool) : Nat → Nat
  | 0 => 0
  | n + 1 => unlisted listed n + (if listed.getD n true = true then 0 else 1)
def firstOf (nA n : Nat) : Array Bool := Array.replicate nA true ++ Array.replicate (n - nA) false
section
variable {P : Program} {ops : Array Oper} {Q : Exit → Act → World → Prop} {nA : Nat} {a0 : Act} {w0 : World} {R : Nat → Value → World → Prop} {al : Nat → Bool} {E : Value → Value → Prop}
def OpDoes (P : Program) (ops : Array Oper) (nA : Nat) (a0 : Act) (w0 : World) (R : Nat → Value → World → Prop) (al : Nat → Bool) (E : Value → Value → Prop) (i : Nat) : Prop :=
  ∀ (vs : Nat → Value) (W : World) (o : Oper), ops[i]? = some o → Below w0.heap.size w0 W → (∀ j, j < nA → needs ops i j = true → R j (vs j) W) →
    ∀ K : Act → World → Prop, Shut (∀ v W', Below W.heap.size W W' → R i v W' → (al i = true → ∀ j u, al j = true → R j u W → E v u) → K ((laidIn ops (fun _ => true) vs nA a0).put o.dst v) W') →
      o.wp P (laidIn ops (fun _ => true) vs nA a0) W K (fun _ _ _ => False)
theorem OpDoes.mk {i : Nat} {o : Oper} (ho : ops[i]? = some o)
    (h : ∀ (vs : Nat → Value) (W : World), Below w0.heap.size w0 W → (∀ j, j < nA → needs ops i j = true → R j (vs j) W) →
      ∀ K : Act → World → Prop, Shut (∀ v W', Below W.heap.size W W' → R i v W' → (al i = true → ∀ j u, al j = true → R j u W → E v u) → K ((laidIn ops (fun _ => true) vs nA a0).put o.dst v) W') →
      o.wp P (laidIn ops (fun _ => true) vs nA a0) W K (fun _ _ _ => False)) : OpDoes P ops nA a0 w0 R al E i := fun vs W o' ho' => by
  obtain rfl : o = o' := by rw [ho] at ho'; exact Option.some.inj ho'
  exact h vs W
end
def sliceBlock : Value → Option Nat
  | .slice (some p) (_ + 1) _ => some p.block
  | _ => none
def InBlock : Value → Nat → Prop
  | .pointer (some p), k => p.block = k
  | .agg cs, k => ∃ i : Nat, (cs[i]?).bind sliceBlock = some k
  | _, _ => False
def Aside (u v : Value) : Prop := ∀ k, InBlock u k → ¬ InBlock v k
theorem Aside.symm : ∀ u v, Aside u v → Aside v u := fun _ _ h k h1 h2 => h k h2 h1
inductive Yield where
  | is (u : Value)
  | whole (lo : Nat) (x : Int) (n : Nat)
  | copy (lo : Nat) (b : Bool) (zs : List Int)
  | new (lo : Nat) (o : Obj)
  | rel (r : Value → World → Prop) (keeps : ∀ v W W', Below W.heap.size W W' → r v W → r v W')
  | own (r : Value → World → Prop) (keeps : ∀ v W W', Below W.heap.size W W' → r v W → r v W') (lies : ∀ v W k, r v W → InBlock v k → k < W.heap.size)
def Yield.At : Yield → Value → World → Prop
  | .is u, v, _ => v = u
  | .whole lo x n, v, W => ∃ (g : Bool) (a : Option Addr) (c : Nat) (z : List Int), v = .agg #[.bool g, .slice a z.length c] ∧ Seg lo W (.slice a z.length c) z ∧ Canon g z ∧ sgn g (val z) = x ∧ z.length ≤ n
  | .copy lo b zs, v, W => ∃ (a : Option Addr) (c : Nat), v = .agg #[.bool b, .slice a zs.length c] ∧ Seg lo W (.slice a zs.length c) zs
  | .new lo o, v, W => ∃ k, v = .pointer (some ⟨k, 0, none⟩) ∧ Box W k o ∧ lo ≤ k
  | .rel r _, v, W => r v W
  | .own r _ _, v, W => r v W
theorem Yield.mono (y : Yield) {v : Value} {W W' : World} (hb : Below W.heap.size W W') (h : y.At v W) : y.At v W' := by
  cases y with
  | is u => exact h
  | whole lo x n => obtain ⟨g, a, c, z, e, s, r⟩ := h; exact ⟨g, a, c, z, e, s.below hb, r⟩
  | copy lo b zs => obtain ⟨a, c, e, s⟩ := h; exact ⟨a, c, e, s.below hb⟩
  | new lo o => obtain ⟨k, e, b, r⟩ := h; exact ⟨k, e, b.below hb, r⟩
  | rel r keeps => exact keeps _ _ _ hb h
  | own r keeps lies => exact keeps _ _ _ hb h
def yields (ks : List Yield) (j : Nat) (v : Value) (W : World) : Prop := match ks[j]? with | some y => y.At v W | none => False
def isFresh (ks : List Yield) (j : Nat) : Bool := match ks[j]? with | some (.is _) => false | some (.rel _ _) => false | some _ => true | none => false
structure Spares (v : Value) (W W' : World) : Prop where
  os : W'.os = W.os
  tape : W'.tape = W.tape
  output : W'.output = W.output
  size : W.heap.size ≤ W'.heap.size
  same : ∀ k, ¬ InBlock v k → W'.heap[k]? = W.heap[k]?
theorem Spares.below {v : Value} {W W' : World} {N : Nat} (h : Spares v W W') (hN : ∀ k, InBlock v k → N ≤ k) : Below N W W' := ⟨h.os, h.tape, h.output, h.size, fun k hk => h.same k fun e => by have := hN k e; omega⟩
def At8 (V : World) (b O : Nat) (x0 x1 x2 x3 x4 x5 x6 x7 : Nat) : Prop := V.cell? ⟨b, O, none⟩ = some (.int .u8 (x0 : Nat)) ∧ V.cell? ⟨b, O + 1, none⟩ = some (.int .u8 (x1 : Nat)) ∧ V.cell? ⟨b, O + 2, none⟩ = some (.int .u8 (x2 : Nat)) ∧ V.cell? ⟨b, O + 3, none⟩ = some (.int .u8 (x3 : Nat)) ∧ V.cell? ⟨b, O + 4, none⟩ = some (.int .u8 (x4 : Nat)) ∧ V.cell? ⟨b, O + 5, none⟩ = some (.int .u8 (x5 : Nat)) ∧ V.cell? ⟨b, O + 6, none⟩ = some (.int .u8 (x6 : Nat)) ∧ V.cell? ⟨b, O + 7, none⟩ = some (.int .u8 (x7 : Nat))
theorem At8.below {V W : World} {b O : Nat} {x0 x1 x2 x3 x4 x5 x6 x7 : Nat} (h : At8 V b O x0 x1 x2 x3 x4 x5 x6 x7) (hb : Below V.heap.size V W) (hl : b < V.heap.size) : At8 W b O x0 x1 x2 x3 x4 x5 x6 x7 := ⟨(hb.cell (p := ⟨b, O, none⟩) hl).trans h.1, (hb.cell (p := ⟨b, O + 1, none⟩) hl).trans h.2.1, (hb.cell (p := ⟨b, O + 2, none⟩) hl).trans h.2.2.1, (hb.cell (p := ⟨b, O + 3, none⟩) hl).trans h.2.2.2.1, (hb.cell (p := ⟨b, O + 4, none⟩) hl).trans h.2.2.2.2.1, (hb.cell (p := ⟨b, O + 5, none⟩) hl).trans h.2.2.2.2.2.1, (hb.cell (p := ⟨b, O + 6, none⟩) hl).trans h.2.2.2.2.2.2.1, (hb.cell (p := ⟨b, O + 7, none⟩) hl).trans h.2.2.2.2.2.2.2⟩
theorem Byt.mix {lo p o n c k : Nat} {W : World} {xs ys : List Int} {vs : List Value} (hB : Byt lo W (.slice (some ⟨p, o, none⟩) n c) (mix k xs ys)) (hn : xs.length = n) (hx : Octs xs) (hy : Octs ys) (hk : k + vs.length ≤ n)
    (hv : ∀ i, i < vs.length → vs[i]? = some (.int .u8 (bx (xs[k + i]?.getD 0) (ys[k + i]?.getD 0)))) : Byt lo (W.setCells p (o + k) vs) (.slice (some ⟨p, o, none⟩) n c) (mix (k + vs.length) xs ys) := by
  by_cases h0 : n = 0
  · have : vs = [] := List.length_eq_zero_iff.1 (by omega)
    subst this
    exact hB
  · obtain ⟨_, _, e, hlo, hlt⟩ := hB.row (by omega)
    simp only [Option.some.injEq, Addr.mk.injEq] at e
    obtain ⟨rfl, _⟩ := e
    have hT := ((Turns.refl p W).setCells vs (o + k)).below.size
    refine Byt.of_cells (mix_octs hx hy _) (by rw [mix_length, hn]) hB.len.2 hlo (Nat.lt_of_lt_of_le hlt hT) (fun j hj => ⟨?_, ?_⟩)
    · rw [mix_getD (by omega)]
      by_cases h1 : k ≤ j ∧ j < k + vs.length
      · have hin := World.cell?_setCells_in p vs (o + k) W (fun i hi => by
          have h1 := (hB.cell (j := k + i) (by omega)).1
          rw [show o + k + i = o + (k + i) by omega, h1]
          rfl) (j - k) (by omega)
        rw [show o + k + (j - k) = o + j by omega] at hin
        have h2 := hv (j - k) (by omega)
        rw [List.getElem?_eq_getElem (by omega), show k + (j - k) = j by omega] at h2
        rw [hin, if_pos (by omega), Option.some.inj h2]
      · rw [World.cell?_setCells_out p vs (o + k) W _ (fun _ _ => by show o + j < o + k ∨ o + k + vs.length ≤ o + j; omega), (hB.cell hj).1, mix_getD (by omega)]
        by_cases h2 : j < k
        · rw [if_pos h2, if_pos (by omega)]
        · rw [if_neg h2, if_neg (by omega)]
    · rw [World.frozen?_setCells]
      exact (hB.cell hj).2
def AddAt (lo p o q r n c : Nat) (xs ys : List Int) (w : World) (s b : Value) (wr : World) : Prop := ∃ (k m : Nat) (a a' : Option Addr) (c' d' : Nat), Hid (k + m = n) ∧ m ≤ n ∧ s = .slice a m c' ∧ b = .slice a' m d' ∧ m ≤ c' ∧ m ≤ d' ∧ Hid (0 < m → a = some ⟨p, o + k, none⟩ ∧ a' = some ⟨q, r + k, none⟩) ∧ Hid (Byt lo wr (.slice (some ⟨p, o, none⟩) n c) (mix k xs ys)) ∧ Hid (Wrote p o n w wr)
def Only (lo : Nat) (a : Option Addr) (n : Nat) (W W' : World) : Prop := Below lo W W' ∧ (∀ p o, 0 < n → a = some ⟨p, o, none⟩ → Wrote p o n W W') ∧ (n = 0 → W' = W)
set_option maxRecDepth 100000 in
theorem clone_any {lo : Nat} {a : Option Addr} {n c : Nat} {xs : List Int} {w : World} (h : Byt lo w (.slice a n c) xs) (hl : n ≤ 1000000) :
    Calls Try.prog 55 #[.slice a n c] w fun e w' => ∃ (a' : Option Addr) (c' : Nat), e = .returned (.slice a' n c') ∧ Byt w.heap.size w' (.slice a' n c') xs ∧ Below w.heap.size w w' := by
  obtain ⟨rfl, _⟩ := h.len
  have qT : ∀ (w : World) (a : Option Addr) (n c n' c' : Nat), (binOp .eql 28 (.slice a n c) (.slice none n' c')).run Try.prog w = .ok (.bool a.isNone) w := fun w a n c n' c' => Lib.run_eql_slice_nil w _ _ a n c n' c' Try.underlying28
  cases a with
  | none =>
    obtain rfl : xs = [] := by
      cases xs with
      | nil => rfl
      | cons x xs => obtain ⟨b, o, e, _⟩ := h.row (by simp); cases e
    go_enter Try.func55, Try.ntmps55
    go_wp2
    go_ret
    exact ⟨_, _, rfl, Byt.nil _ _, Below.refl _ _⟩
  | some p =>
    obtain ⟨a', cap', w', hap, hs, hb⟩ := appendb_copy h hl
    go_enter Try.func55, Try.ntmps55
    go_wp2_with (at_builtin; refine Lib.wpList_append_run _ rfl _ _ _ _ rfl _ _ rfl rfl _ _ hap ?_)
    go_ret
    exact ⟨_, _, rfl, hs, hb⟩
def evn (xs : List Int) (n : Nat) : List Int := (List.range n).map fun j => xs[j]?.getD 0
structure BV where
  a : Option Addr
  c : Nat
  zs : List Int
def BV.v (b : BV) : Value := .slice b.a b.zs.length b.c
structure Lists (W : World) (a : Option Addr) (bs : List BV) : Prop where
  row : ∀ (j : Nat) (v : BV), bs[j]? = some v → ∃ g o, a = some ⟨g, o, none⟩ ∧ g < W.heap.size ∧ W.cell? ⟨g, o + j, none⟩ = some (.slice v.a v.zs.length v.c)
  each : ∀ (j : Nat) (v : BV), bs[j]? = some v → Byt 0 W (.slice v.a v.zs.length v.c) v.zs
theorem Lists.below {W W' : World} {a : Option Addr} {bs : List BV} (h : Lists W a bs) (hb : Below W.heap.size W W') : Lists W' a bs :=
  ⟨fun j v hv => by
    obtain ⟨g, o, e, h1, h2⟩ := h.row j v hv
    exact ⟨g, o, e, Nat.lt_of_lt_of_le h1 hb.size, (hb.cell (p := ⟨g, o + j, none⟩) h1).trans h2⟩, fun j v hv => (h.each j v hv).below hb⟩
theorem Lists.nil (W : World) (a : Option Addr) : Lists W a [] := ⟨fun j v h => by simp at h, fun j v h => by simp at h⟩
def sumK (acc : List Int) (bs : List BV) (k : Nat) : List Int := (bs.take k).foldl (fun s b => xl s b.zs) acc
end Go.Proofs.Ytbebdeaeegcfkaa
namespace Go.Proofs.Ytbebdeaeegcfkaa
open Go.RowKit
end Go.Proofs.Ytbebdeaeegcfkaa
namespace Go.Proofs.Ytbebdeaeegcfkaa
open Go.RowKit
theorem octs_of {zs : List Int} (h : (zs.all fun z => decide (0 ≤ z) && decide (z < 256)) = true) : Octs zs := fun z hz => by
  have := List.all_eq_true.1 h z hz
  simp only [Bool.and_eq_true, decide_eq_true_eq] at this
  exact this
theorem byt_lit (W : World) (g n : Nat) (hg : W.heap.size = g) (zs : List Int) (hz : Octs zs) (hn : zs.length = n) (cs : Array Value) (hc : cs = (zs.map (Value.int .u8)).toArray) :
    Byt g (W.alloc (.cells cs 5)) (.slice (some ⟨g, 0, none⟩) n n) zs := by
  subst hc hg hn
  refine ⟨hz, _, _, rfl, Nat.le_refl _, fun _ => ⟨_, 0, rfl, Nat.le_refl _, by simp, fun j hj => ?_, fun j _ => frozen_of_heap (World.alloc_heap_new W _) _⟩⟩
  rw [cell_of_heap (World.alloc_heap_new W _), Nat.zero_add]
  simp [hj]
theorem sameb_yes {lo lo' : Nat} {a b : Option Addr} {la ca lb cb : Nat} {xs ys : List Int} {w : World} (ha : Byt lo w (.slice a la ca) xs) (hb : Byt lo' w (.slice b lb cb) ys) (h : xs = ys) :
    Calls Try.prog 15 #[.slice a la ca, .slice b lb cb] w fun e w' => e = .returned (.bool true) ∧ Below w.heap.size w w' := by
  refine (sameb_any ha hb).mono ?_
  rintro e w' ⟨rfl, h2⟩
  exact ⟨by rw [decide_eq_true h], h2⟩
end Go.Proofs.Ytbebdeaeegcfkaa
namespace Go.Proofs.Ytbebdeaeegcfkaa
open Go.RowKit
end Go.Proofs.Ytbebdeaeegcfkaa
namespace Go.Proofs.Ytbebdeaeegcfkaa
open Go.RowKit
theorem overb_all {lo : Nat} {a : Option Addr} {n cap : Nat} {zs : List Int} {w : World} (h : Byt lo w (.slice a n cap) zs) (hl : n ≤ 1000000) (hi : Nat) (hr : zs ≠ [] → ∀ b o, a = some ⟨b, o, none⟩ → b < hi) :
    Calls Try.prog 20 #[.slice a n cap] w fun e w' => e = .returned (.tuple #[]) ∧ Below lo w w' ∧ ∀ k, hi ≤ k → w'.heap[k]? = w.heap[k]? := by
  obtain ⟨rfl, _⟩ := h.len
  exact overb_fr h hl hi hr
theorem OwnB.below {lo : Nat} {W W' : World} {v : Value} {zs : List Int} (h : OwnB lo W v zs) (hb : Below W.heap.size W W') : OwnB lo W' v zs := by
  obtain ⟨⟨h1, h2⟩, hw⟩ := h
  refine ⟨⟨h1, ?_⟩, hw⟩
  rcases h2 with ⟨e, h0⟩ | ⟨g, cap, cur, e, hg, hh, hc, hm, hs, ht⟩
  · exact .inl ⟨e, h0⟩
  · exact .inr ⟨g, cap, cur, e, hg, (hb.block g (Array.getElem?_eq_some_iff.1 hh).1).trans hh, hc, hm, hs, ht⟩
theorem Byt.behind {lo R n k cap : Nat} {W W' : World} {xs ys : List Int} (h : Byt lo W (.slice (some ⟨R, 0, none⟩) (n + k) cap) (xs ++ ys)) (hx : xs.length = n) (hw : Wrote R 0 n W W') : Byt lo W' (.slice (some ⟨R, 0 + n, none⟩) k (cap - n)) ys := by
  have hl := h.len
  rw [List.length_append, hx] at hl
  by_cases h0 : k = 0
  · subst h0
    obtain rfl : ys = [] := List.length_eq_zero_iff.1 (by omega)
    exact Byt.empty _ _ _ _
  · obtain ⟨_, _, e, h1, h2⟩ := h.row (by omega)
    simp only [Option.some.injEq, Addr.mk.injEq] at e
    obtain ⟨rfl, _⟩ := e
    refine Byt.of_cells (fun z hz => h.words z (List.mem_append_right _ hz)) (by omega) (by omega) h1 (Nat.lt_of_lt_of_le h2 hw.turns.below.size) (fun j hj => ?_)
    have hc := h.cell (j := n + j) (by omega)
    have hk := hw.cells (0 + n + j) (by omega)
    rw [show 0 + (n + j) = 0 + n + j by omega] at hc
    rw [List.getElem?_append_right (by omega), show n + j - xs.length = j by omega] at hc
    exact ⟨hk.1.trans hc.1, hk.2.trans hc.2⟩
end Go.Proofs.Ytbebdeaeegcfkaa
