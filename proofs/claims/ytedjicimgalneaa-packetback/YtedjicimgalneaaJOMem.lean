/-
  Joined: OMem OStep PFour.
-/
import Derived.Test.YtedjicimgalneaaJRMulB
import Derived.Test.YtedjicimgalneaaBFrame
import Derived.Maps.AppendAt
import Derived.Test.YtedjicimgalneaaJWiden
import Derived.Defers
namespace Go.Proofs.Ytedjicimgalneaa
open Go.RowKit
structure Spared (F : Nat → Prop) (A B : World) : Prop where
  below : Below 0 A B
  same : ∀ k, k < A.heap.size → ¬ F k → B.heap[k]? = A.heap[k]?
theorem Spared.size {F : Nat → Prop} {A B : World} (h : Spared F A B) : A.heap.size ≤ B.heap.size := h.below.size
theorem Spared.refl (F : Nat → Prop) (A : World) : Spared F A A := ⟨Below.refl _ _, fun _ _ _ => rfl⟩
theorem Spared.next {F G : Nat → Prop} {A B C : World} (h : Spared F A B) (k : Spared G B C) (hg : ∀ i, i < A.heap.size → G i → F i) : Spared F A C :=
  ⟨h.below.trans k.below, fun i hi hf => (k.same i (Nat.lt_of_lt_of_le hi h.size) (fun g => hf (hg i hi g))).trans (h.same i hi hf)⟩
theorem Spared.mono {F G : Nat → Prop} {A B : World} (h : Spared F A B) (hg : ∀ i, i < A.heap.size → F i → G i) : Spared G A B :=
  ⟨h.below, fun i hi hf => h.same i hi (fun f => hf (hg i hi f))⟩
theorem Spared.of_below {A B : World} (F : Nat → Prop) (h : Below A.heap.size A B) : Spared F A B := ⟨h.mono (Nat.zero_le _), fun k hk _ => h.block k hk⟩
theorem Spared.behind {F : Nat → Prop} {A B C : World} (h : Spared F A B) (k : Below B.heap.size B C) : Spared F A C := h.next (Spared.of_below (fun _ => False) k) (fun _ _ f => f.elim)
theorem Spared.ahead {F : Nat → Prop} {A B C : World} (h : Below A.heap.size A B) (k : Spared F B C) : Spared F A C := (Spared.of_below F h).next k (fun _ _ f => f)
theorem Spared.to_below {F : Nat → Prop} {A B : World} {lo : Nat} (h : Spared F A B) (hl : lo ≤ A.heap.size) (hF : ∀ k, F k → lo ≤ k) : Below lo A B :=
  ⟨h.below.os, h.below.tape, h.below.output, h.below.size, fun k hk => h.same k (by omega) (fun f => by have := hF k f; omega)⟩
theorem Spared.alloc {F : Nat → Prop} {A B : World} (h : Spared F A B) (o : Obj) : Spared F A (B.alloc o) := h.behind (below_new B o)
theorem Spared.setCell {F : Nat → Prop} {A B : World} (h : Spared F A B) {k : Nat} (hk : F k) (o : Nat) (v : Value) : Spared F A (B.setCell ⟨k, o, none⟩ v) :=
  ⟨h.below.setCell (p := ⟨k, o, none⟩) (Nat.zero_le _) v, fun i hi hf => (Below.heap_setCell _ _ _ _ (fun (e : i = k) => hf (e ▸ hk))).trans (h.same i hi hf)⟩
theorem Spared.drew {F : Nat → Prop} {A B : World} (h : Spared F A B) : Spared F A B.drew := ⟨h.below.drew, h.same⟩
theorem Box.spared {F : Nat → Prop} {A B : World} {k : Nat} {o : Obj} (h : Box A k o) (hs : Spared F A B) (hk : ¬ F k) : Box B k o := ⟨Nat.lt_of_lt_of_le h.lt hs.size, (hs.same k h.lt hk).trans h.what⟩
theorem Byt.spared {F : Nat → Prop} {lo : Nat} {A B : World} {v : Value} {zs : List Int} (h : Byt lo A v zs) (hs : Spared F A B) (hF : ∀ k, v.ownBlock = some k → ¬ F k) : Byt lo B v zs := by
  obtain ⟨hw, a, cap, rfl, h1, h3⟩ := h
  refine ⟨hw, a, cap, rfl, h1, fun hz => ?_⟩
  obtain ⟨b, off, rfl, e2, e3, e4, e5⟩ := h3 hz
  have hb := hs.same b e3 (hF b rfl)
  exact ⟨b, off, rfl, e2, Nat.lt_of_lt_of_le e3 hs.size, fun j hj => (World.cell?_of_block (a := ⟨b, off + j, none⟩) hb).trans (e4 j hj), fun j hj => (World.frozen?_of_block (a := ⟨b, off + j, none⟩) hb).trans (e5 j hj)⟩
theorem OwnB.spared {F : Nat → Prop} {lo : Nat} {A B : World} {v : Value} {zs : List Int} (h : OwnB lo A v zs) (hs : Spared F A B) (hF : ∀ k, v.ownBlock = some k → ¬ F k) : OwnB lo B v zs := by
  obtain ⟨⟨h1, h2⟩, hw⟩ := h
  refine ⟨⟨h1, ?_⟩, hw⟩
  rcases h2 with ⟨e, h0⟩ | ⟨g, cap, cur, rfl, hg, hh, hc, hm, hz, ht⟩
  · exact .inl ⟨e, h0⟩
  · exact .inr ⟨g, cap, cur, rfl, hg, (hs.same g (Array.getElem?_eq_some_iff.1 hh).1 (hF g rfl)).trans hh, hc, hm, hz, ht⟩
theorem OwnB.apart {lo k g : Nat} {W : World} {v : Value} {zs : List Int} {cs : Array Value} {t : TypeId} (h : OwnB lo W v zs) (hb : Box W k (.cells cs t (0, 0))) (ht : t ≠ 5) (hg : v.ownBlock = some g) : g ≠ k := by
  rintro rfl
  obtain ⟨⟨_, h2⟩, _⟩ := h
  rcases h2 with ⟨rfl, _⟩ | ⟨g', cap, cur, rfl, _, hh, _⟩
  · cases hg
  · obtain rfl := Option.some.inj hg
    change W.heap[g']? = _ at hh
    rw [hb.what] at hh
    simp only [Option.some.injEq, Obj.cells.injEq] at hh
    exact ht hh.2.1
theorem OwnB.lt {lo g : Nat} {W : World} {v : Value} {zs : List Int} (h : OwnB lo W v zs) (hg : v.ownBlock = some g) : lo ≤ g ∧ g < W.heap.size := h.1.lt g hg
theorem Box.apart {W : World} {k g : Nat} {cs ds : Array Value} {t u : TypeId} (h : Box W k (.cells cs t (0, 0))) (h' : Box W g (.cells ds u (0, 0))) (ht : t ≠ u) : k ≠ g := by
  rintro rfl
  have := h.what.symm.trans h'.what
  simp only [Option.some.injEq, Obj.cells.injEq] at this
  exact ht this.2.1
theorem ownb_on {lo lo' : Nat} {w : World} {a b : Option Addr} {n c m d : Nat} {zs ys : List Int} (h : OwnB lo w (.slice a n c) zs) (Y : Byt lo' w (.slice b m d) ys) (hl : n + m ≤ 1000000) (hlo : lo ≤ w.heap.size) :
    ∃ a' c' w', (Builtin.append_ #[22, 22] 22 #[.slice a n c, .slice b m d]).run Try.prog w = .ok (.slice a' (n + m) c') w' ∧ OwnB lo w' (.slice a' (n + m) c') (zs ++ ys) ∧ Spared (fun k => (Value.slice a n c).ownBlock = some k) w w' ∧ ((Value.slice a' (n + m) c').ownBlock = (Value.slice a n c).ownBlock ∨ (Value.slice a' (n + m) c').ownBlock = some w.heap.size) := by
  obtain ⟨_, _, e1, hB⟩ := ownb_seg h
  simp only [Value.slice.injEq] at e1
  obtain ⟨rfl, hn, rfl⟩ := e1
  have hym := Y.len.1
  by_cases h0 : m = 0
  · subst h0
    obtain rfl : ys = [] := List.length_eq_zero_iff.1 (by omega)
    refine ⟨a, c, w, appendb_none a n c (by have := hB.len.2; omega) b d w _, by simpa using h, Spared.refl _ _, .inl ?_⟩
    cases a <;> rfl
  · obtain ⟨g, o, rfl, _, _⟩ := Y.row (by omega)
    obtain ⟨i0, hi, hz0, hz1, hz2⟩ := info_parts infoU8
    obtain ⟨v', w', hr, hown, hg, _, hat⟩ := run_append_own_at (P := Try.prog) w lo 22 22 5 i0 (.int .u8 0) 1 1 Try.underlying22 hi hz0 hz1 hz2 rfl (by decide)
      _ zs.length (zs.map (Value.int .u8)) h.1 ⟨g, o, none⟩ m d (ys.map (Value.int .u8)) (by simp [hym])
      (fun j u hj => by
        rw [List.getElem?_map] at hj
        obtain ⟨z, hz', rfl⟩ := Option.map_eq_some_iff.1 hj
        have hjl : j < ys.length := (List.getElem?_eq_some_iff.1 hz').1
        have := (Y.cell (j := j) (by omega)).1
        rw [hz'] at this
        rw [Addr.add_lit]
        exact this)
      (fun u hu => by obtain ⟨z, _, rfl⟩ := List.mem_map.1 hu; rfl) (by unfold maxLen; omega) (by omega) hlo
    have hlen : (zs ++ ys).length = zs.length + m := by simp [hym]
    have ho : OwnB lo w' v' (zs ++ ys) := by
      refine ⟨?_, h.2.append Y.words⟩
      rw [hlen, List.map_append]
      exact hown
    obtain ⟨a', c', e, _⟩ := ownb_seg ho
    rw [hlen, ← hn] at e
    subst e
    exact ⟨a', c', w', hr, ho, ⟨⟨hg.os, hg.tape, hg.output, hg.size, fun k hk => absurd hk (Nat.not_lt_zero k)⟩, fun k hk hf => hg.block k hk (fun e => hf e.symm)⟩, hat⟩
theorem four_cells {W : World} {g : Nat} {u v x y : Value} {t : TypeId} (h : Box W g (.cells #[u, v, x, y] t (0, 0))) :
    W.cell? ⟨g, 0, none⟩ = some u ∧ W.cell? ⟨g, 1, none⟩ = some v ∧ W.cell? ⟨g, 2, none⟩ = some x ∧ W.cell? ⟨g, 3, none⟩ = some y ∧ W.frozen? ⟨g, 0, none⟩ = false ∧ W.frozen? ⟨g, 1, none⟩ = false ∧ W.frozen? ⟨g, 2, none⟩ = false ∧ W.frozen? ⟨g, 3, none⟩ = false :=
  ⟨cell_of_heap h.what 0, cell_of_heap h.what 1, cell_of_heap h.what 2, cell_of_heap h.what 3, frozen_of_heap h.what 0, frozen_of_heap h.what 1, frozen_of_heap h.what 2, frozen_of_heap h.what 3⟩
theorem three_of {W : World} {g : Nat} {u v x : Value} {t : TypeId} (h : Box W g (.cells #[u, v, x] t (0, 0))) :
    W.cell? ⟨g, 0, none⟩ = some u ∧ W.cell? ⟨g, 1, none⟩ = some v ∧ W.cell? ⟨g, 2, none⟩ = some x ∧ W.frozen? ⟨g, 0, none⟩ = false ∧ W.frozen? ⟨g, 1, none⟩ = false ∧ W.frozen? ⟨g, 2, none⟩ = false :=
  ⟨cell_of_heap h.what 0, cell_of_heap h.what 1, cell_of_heap h.what 2, frozen_of_heap h.what 0, frozen_of_heap h.what 1, frozen_of_heap h.what 2⟩
theorem one_of {W : World} {g : Nat} {u : Value} {t : TypeId} (h : Box W g (.cells #[u] t (0, 0))) : W.cell? ⟨g, 0, none⟩ = some u ∧ W.frozen? ⟨g, 0, none⟩ = false := ⟨cell_of_heap h.what 0, frozen_of_heap h.what 0⟩
theorem Box.put1 {W : World} {g : Nat} {cs : Array Value} {t : TypeId} (h : Box W g (.cells cs t (0, 0))) (i : Nat) (v : Value) : Box (W.setCell ⟨g, i, none⟩ v) g (.cells (cs.setIfInBounds i v) t (0, 0)) :=
  ⟨by simpa [World.setCell] using h.lt, heap_setCell_same W g i _ t v h.what⟩
theorem Box.aside {W : World} {g k : Nat} {o : Obj} (h : Box W k o) (i : Nat) (v : Value) (hk : k ≠ g) : Box (W.setCell ⟨g, i, none⟩ v) k o :=
  ⟨by simpa [World.setCell] using h.lt, (Below.heap_setCell _ _ _ _ hk).trans h.what⟩
def Cur (W : World) (c : Nat) (sv : Value) (a er fa : Int) : Prop := Box W c (.cells #[sv, .int .i64 a, .int .i64 er, .int .i64 fa] 71)
set_option maxRecDepth 100000 in
set_option maxHeartbeats 1000000 in
theorem ohere_any {c : Nat} {sv : Value} {a x y : Int} {w : World} (C : Cur w c sv a x y) (er : Int) :
    Calls Try.prog 49 #[.pointer (some ⟨c, 0, none⟩), .int .i64 er] w fun e w' => e = .returned (.agg #[.int .i64 er, .int .i64 a]) ∧ Below w.heap.size w w' := by
  have B := below_new w (.cells #[.int .i64 0, .int .i64 0] 62)
  obtain ⟨_, h1, _⟩ := four_cells (C.below B)
  have hn := cell_of_heap (World.alloc_heap_new w (.cells #[.int .i64 0, .int .i64 0] 62)) 0
  clear B C
  go_enter Try.func49, Try.ntmps49
  go_wp2
  refine bodyPost_ret (v := .agg #[.int .i64 er, .int .i64 a]) (by simp [results, Try.f49, go_sem]) rfl ?_
  exact ⟨rfl, below_new w _⟩
set_option maxRecDepth 100000 in
set_option maxHeartbeats 1000000 in
theorem ostep1_any (A B c : Nat) (x y : Int) (p q : Value) (u : FrameMode) (w : World) (hA : w.cell? ⟨A, 0, none⟩ = some (.int .i64 x)) (hA1 : w.cell? ⟨A, 1, none⟩ = some (.int .i64 y)) (hB : w.cell? ⟨B, 0, none⟩ = some (.pointer (some ⟨c, 0, none⟩)))
    (h2 : w.cell? ⟨c, 2, none⟩ = some p) (h3 : w.cell? ⟨c, 3, none⟩ = some q) (f2 : w.frozen? ⟨c, 2, none⟩ = false) (f3 : w.frozen? ⟨c, 3, none⟩ = false) :
    CallsD Try.prog 64 #[.pointer (some ⟨A, 0, none⟩), .pointer (some ⟨B, 0, none⟩)] u w fun e u' w' => u' = u ∧ (e = .returned (.tuple #[]) ∧ w' = (w.setCell ⟨c, 2, none⟩ (.int .i64 x)).setCell ⟨c, 3, none⟩ (.int .i64 y)) := by
  go_enter_d Try.func64, Try.ntmps64
  go_wp2
  go_end0
  exact ⟨rfl, rfl⟩
def stepW (w : World) (c : Nat) (x y : Int) : World := (w.alloc (.cells #[.pointer (some ⟨c, 0, none⟩)] 69)).alloc (.cells #[.int .i64 x, .int .i64 y] 62)
theorem stepW_below (w : World) (c : Nat) (x y : Int) : Below w.heap.size w (stepW w c x y) := by
  have b1 := below_new w (.cells #[.pointer (some ⟨c, 0, none⟩)] 69)
  exact b1.trans ((below_new _ _).mono b1.size)
theorem stepW_size (w : World) (c : Nat) (x y : Int) : (stepW w c x y).heap.size = w.heap.size + 2 := by simp [stepW]
theorem stepW_ptr (w : World) (c : Nat) (x y : Int) : Box (stepW w c x y) w.heap.size (.cells #[.pointer (some ⟨c, 0, none⟩)] 69) := (Box.new w _).below (below_new _ _)
theorem stepW_fault (w : World) (c : Nat) (x y : Int) : Box (stepW w c x y) (w.heap.size + 1) (.cells #[.int .i64 x, .int .i64 y] 62) := Box.put _ (by simp)
theorem Cur.keep {W : World} {c : Nat} {sv : Value} {a er fa : Int} (C : Cur W c sv a er fa) (x y : Int) : Cur ((W.setCell ⟨c, 2, none⟩ (.int .i64 x)).setCell ⟨c, 3, none⟩ (.int .i64 y)) c sv a x y := (Box.put1 C 2 (.int .i64 x)).put1 3 (.int .i64 y)
theorem two_aside (W : World) (c : Nat) (u v : Value) : Spared (fun k => k = c) W ((W.setCell ⟨c, 2, none⟩ u).setCell ⟨c, 3, none⟩ v) := ((Spared.refl (fun k => k = c) W).setCell rfl 2 u).setCell rfl 3 v
set_option maxRecDepth 100000 in
set_option maxHeartbeats 1000000 in
theorem ostep_stays {c : Nat} {sv : Value} {a er fa : Int} {w : World} (C : Cur w c sv a er fa) (h : ¬ er = 0) (J : Nat) (cap : Array Value) :
    Calls Try.prog 46 #[.pointer (some ⟨c, 0, none⟩), .func (.func J) #[] cap] w fun e w' => e = .returned (.agg #[.int .i64 er, .int .i64 fa]) ∧ Cur w' c sv a er fa ∧ Spared (fun k => k = c) w w' := by
  have hmf : ∀ (fn : Fn) (first cap : Array Value) (w : World), (Instr.makeFunc fn first cap).run Try.prog w = .ok (.func fn first cap) w := fun _ _ _ _ => rfl
  have HC := hide C
  obtain ⟨_, _, c2, c3, _, _, g2, g3⟩ := four_cells (HC.out.below (stepW_below w c 0 0))
  have n0 := (stepW_fault w c 0 0).two
  unfold stepW at c2 c3 g2 g3 n0
  obtain ⟨n0, n1, m0, m1⟩ := n0
  clear C
  go_enter_defers Try.func46, Try.ntmps46
  go_wp2
  clear c2 c3 g2 g3 n0 n1 m0 m1
  refine leaves_cons (f := 64) (args := #[.pointer (some ⟨w.heap.size + 1, 0, none⟩), .pointer (some ⟨w.heap.size, 0, none⟩)]) (by simp) (by simp [go_sem]) ?_
  have hW : (w.alloc (.cells #[.pointer (some ⟨c, 0, none⟩)] 69)).alloc (.cells #[.int .i64 er, .int .i64 fa] 62) = stepW w c er fa := rfl
  rw [hW]
  clear hW
  have C2 := HC.out.below (stepW_below w c er fa)
  have B2 := stepW_below w c er fa
  have F2 := stepW_fault w c er fa
  have P2 := stepW_ptr w c er fa
  have S2 := stepW_size w c er fa
  obtain ⟨W, hW⟩ : ∃ W, stepW w c er fa = W := ⟨_, rfl⟩
  rw [hW] at C2 B2 F2 P2 S2 ⊢
  clear hW
  obtain ⟨_, _, c2, c3, _, _, g2, g3⟩ := four_cells C2
  obtain ⟨p0, _⟩ := one_of P2
  obtain ⟨n0, n1, _, _⟩ := F2.two
  refine (ostep1_any _ _ c er fa _ _ .returning W n0 n1 p0 c2 c3 g2 g3).mono ?_
  rintro e u' w'' ⟨rfl, rfl, rfl⟩
  have hcl := HC.out.lt
  have FZ := F2.spared (two_aside W c (.int .i64 er) (.int .i64 fa)) (by omega)
  have CZ := Cur.keep C2 er fa
  have SZ := Spared.ahead B2 (two_aside W c (.int .i64 er) (.int .i64 fa))
  obtain ⟨r0, r1, _, _⟩ := FZ.two
  simp [Leaves, settle, results, Try.results46, go_sem, r0, r1]
  exact ⟨CZ, SZ⟩
set_option maxRecDepth 100000 in
set_option maxHeartbeats 2000000 in
theorem ostep_on {c : Nat} {sv : Value} {a fa : Int} {w : World} (C : Cur w c sv a 0 fa) (J : Nat) (cap : Array Value) (hJ : ∀ (args : Array Value) (w : World), (callFunc J args).run Try.prog w = .ok (.enter J args) w) (F : Nat → Prop) (hF : ∀ k, F k → k < w.heap.size) (Q : Int → Int → Value → Int → World → Prop)
    (hon : ∀ W, Below w.heap.size w W → W.heap.size = w.heap.size + 2 → Calls Try.prog J cap W fun e w2 => ∃ (x y : Int) (sv' : Value) (a' er' fa' : Int), e = .returned (.agg #[.int .i64 x, .int .i64 y]) ∧ Cur w2 c sv' a' er' fa' ∧ Spared (fun k => k = c ∨ F k) W w2 ∧ Q x y sv' a' w2) :
    Calls Try.prog 46 #[.pointer (some ⟨c, 0, none⟩), .func (.func J) #[] cap] w fun e w3 => ∃ (x y : Int) (sv' : Value) (a' : Int) (w2 : World), e = .returned (.agg #[.int .i64 x, .int .i64 y]) ∧ Q x y sv' a' w2 ∧ Cur w3 c sv' a' x y ∧ Spared (fun k => k = c ∨ F k) w w3 ∧ Spared (fun k => k = c ∨ k = w.heap.size + 1) w2 w3 := by
  have hmf : ∀ (fn : Fn) (first cap : Array Value) (w : World), (Instr.makeFunc fn first cap).run Try.prog w = .ok (.func fn first cap) w := fun _ _ _ _ => rfl
  have hon := hon (stepW w c 0 0) (stepW_below w c 0 0) (stepW_size w c 0 0)
  have HC := hide C
  obtain ⟨_, _, c2, c3, _, _, g2, g3⟩ := four_cells (HC.out.below (stepW_below w c 0 0))
  have n0 := (stepW_fault w c 0 0).two
  have HP := hide (stepW_ptr w c 0 0)
  have HFv := hide (stepW_fault w c 0 0)
  have HB := hide (stepW_below w c 0 0)
  have HFF := hide hF
  unfold stepW at c2 c3 g2 g3 n0 hon
  obtain ⟨n0, n1, m0, m1⟩ := n0
  clear C hF
  go_enter_defers Try.func46, Try.ntmps46
  go_wp2_with fail
  refine hon.mono ?_
  rintro e w2 ⟨x, y, sv', a', er', fa', rfl, C2, S2, q⟩
  have HFl := HFF.out
  have hsz := stepW_size w c 0 0
  have hcl := HC.out.lt
  have P2 := HP.out.spared S2 (fun h => h.elim (fun h => by omega) (fun h => by have := HFl _ h; omega))
  have F2 := HFv.out.spared S2 (fun h => h.elim (fun h => by omega) (fun h => by have := HFl _ h; omega))
  have HS2 := hide (Spared.ahead HB.out S2)
  have HC2 := hide C2
  have HP2 := hide P2
  have HQ := hide q
  have HF2 := hide F2
  obtain ⟨_, _, k2, k3, _, _, f2, f3⟩ := four_cells C2
  obtain ⟨n0, n1, m0, m1⟩ := F2.two
  clear hon hsz HFl P2 F2 S2 C2 q c2 c3 g2 g3 HP HFv HB hJ
  go_wp2
  clear k2 k3 f2 f3 n0 n1 m0 m1
  refine leaves_cons (f := 64) (args := #[.pointer (some ⟨w.heap.size + 1, 0, none⟩), .pointer (some ⟨w.heap.size, 0, none⟩)]) (by simp) (by simp [go_sem]) ?_
  have FW := HF2.out.set2 (.int .i64 x) (.int .i64 y)
  have SW : Spared (fun k => k = c ∨ k = w.heap.size + 1) w2 ((w2.setCell ⟨w.heap.size + 1, 0, none⟩ (.int .i64 x)).setCell ⟨w.heap.size + 1, 1, none⟩ (.int .i64 y)) := ((Spared.refl _ w2).setCell (.inr rfl) 0 _).setCell (.inr rfl) 1 _
  have CW : Cur ((w2.setCell ⟨w.heap.size + 1, 0, none⟩ (.int .i64 x)).setCell ⟨w.heap.size + 1, 1, none⟩ (.int .i64 y)) c sv' a' er' fa' := Box.aside (Box.aside HC2.out 0 _ (by omega)) 1 _ (by omega)
  have PW : Box ((w2.setCell ⟨w.heap.size + 1, 0, none⟩ (.int .i64 x)).setCell ⟨w.heap.size + 1, 1, none⟩ (.int .i64 y)) w.heap.size (.cells #[.pointer (some ⟨c, 0, none⟩)] 69) := Box.aside (Box.aside HP2.out 0 _ (by omega)) 1 _ (by omega)
  obtain ⟨W, hW⟩ : ∃ W, (w2.setCell ⟨w.heap.size + 1, 0, none⟩ (.int .i64 x)).setCell ⟨w.heap.size + 1, 1, none⟩ (.int .i64 y) = W := ⟨_, rfl⟩
  rw [hW] at FW SW CW PW ⊢
  clear hW
  obtain ⟨_, _, c2, c3, _, _, g2, g3⟩ := four_cells CW
  obtain ⟨p0, _⟩ := one_of PW
  obtain ⟨n0, n1, _, _⟩ := FW.two
  refine (ostep1_any _ _ c x y _ _ .returning W n0 n1 p0 c2 c3 g2 g3).mono ?_
  rintro e u' w'' ⟨rfl, rfl, rfl⟩
  have FZ := FW.spared (two_aside W c (.int .i64 x) (.int .i64 y)) (by omega)
  have CZ := Cur.keep CW x y
  have SZ := SW.next (two_aside W c (.int .i64 x) (.int .i64 y)) (fun i _ h => Or.inl h)
  have SA := HS2.out.next SZ (fun i hi h => h.elim Or.inl (fun h => by omega))
  obtain ⟨r0, r1, _, _⟩ := FZ.two
  simp [Leaves, settle, results, Try.results46, go_sem, r0, r1]
  exact ⟨x, y, ⟨rfl, rfl⟩, sv', a', w2, HQ.out, CZ, SA, SZ⟩
end Go.Proofs.Ytedjicimgalneaa
