/-
  Joined: OMem MLow MCheck MBlk OStep MHCheck MHBlk.
-/
import Derived.Test.YtbebdeaeegcfkaaJRMulB
import Derived.Test.YtbebdeaeegcfkaaJBFrame
import Derived.Maps.AppendAt
import Derived.Test.YtbebdeaeegcfkaaJWiden
import Derived.Defers
namespace Go.Proofs.Ytbebdeaeegcfkaa
open Go.RowKit
structure Spared (F : Nat → Prop) (A B : World) : Prop where
  below : Below 0 A B
  same : ∀ k, k < A.heap.size → ¬ F k → B.heap[k]? = A.heap[k]?
theorem Spared.size {F : Nat → Prop} {A B : World} (h : Spared F A B) : A.heap.size ≤ B.heap.size := h.below.size
theorem Spared.refl (F : Nat → Prop) (A : World) : Spared F A A := ⟨Below.refl _ _, fun _ _ _ => rfl⟩
theorem Spared.next {F G : Nat → Prop} {A B C : World} (h : Spared F A B) (k : Spared G B C) (hg : ∀ i, i < A.heap.size → G i → F i) : Spared F A C :=
  ⟨h.below.trans k.below, fun i hi hf => (k.same i (Nat.lt_of_lt_of_le hi h.size) (fun g => hf (hg i hi g))).trans (h.same i hi hf)⟩
theorem Spared.mono {F G : Nat → Prop} {A B : World} (h : Spared F A B) (hg : ∀ i, i < A.heap.size → F i → G i) : Spared G A B :=
  ⟨h.below, fun i hi hf => h.same i hi (fun f => hf (hg i hi f))⟩
theorem Spared.of_below {A B : World} (F : Nat → Prop) (h : Below A.heap.size A B) : Spared F A B := ⟨h.mono (Nat.zero_le _), fun k hk _ => h.block k hk⟩
theorem Spared.behind {F : Nat → Prop} {A B C : World} (h : Spared F A B) (k : Below B.heap.size B C) : Spared F A C := h.next (Spared.of_below (fun _ => False) k) (fun _ _ f => f.elim)
theorem Spared.ahead {F : Nat → Prop} {A B C : World} (h : Below A.heap.size A B) (k : Spared F B C) : Spared F A C := (Spared.of_below F h).next k (fun _ _ f => f)
theorem Spared.to_below {F : Nat → Prop} {A B : World} {lo : Nat} (h : Spared F A B) (hl : lo ≤ A.heap.size) (hF : ∀ k, F k → lo ≤ k) : Below lo A B :=
  ⟨h.below.os, h.below.tape, h.below.output, h.below.size, fun k hk => h.same k (by omega) (fun f => by have := hF k f; omega)⟩
theorem Spared.of_below_lo {A B : World} {lo : Nat} (h : Below lo A B) : Spared (fun k => lo ≤ k) A B := ⟨h.mono (Nat.zero_le _), fun k _ hf => h.block k (by omega)⟩
theorem Spared.alloc {F : Nat → Prop} {A B : World} (h : Spared F A B) (o : Obj) : Spared F A (B.alloc o) := h.behind (below_new B o)
theorem Spared.setCell {F : Nat → Prop} {A B : World} (h : Spared F A B) {k : Nat} (hk : F k) (o : Nat) (v : Value) : Spared F A (B.setCell ⟨k, o, none⟩ v) :=
  ⟨h.below.setCell (p := ⟨k, o, none⟩) (Nat.zero_le _) v, fun i hi hf => (Below.heap_setCell _ _ _ _ (fun (e : i = k) => hf (e ▸ hk))).trans (h.same i hi hf)⟩
theorem Spared.drew {F : Nat → Prop} {A B : World} (h : Spared F A B) : Spared F A B.drew := ⟨h.below.drew, h.same⟩
theorem Box.spared {F : Nat → Prop} {A B : World} {k : Nat} {o : Obj} (h : Box A k o) (hs : Spared F A B) (hk : ¬ F k) : Box B k o := ⟨Nat.lt_of_lt_of_le h.lt hs.size, (hs.same k h.lt hk).trans h.what⟩
theorem Byt.spared {F : Nat → Prop} {lo : Nat} {A B : World} {v : Value} {zs : List Int} (h : Byt lo A v zs) (hs : Spared F A B) (hF : ∀ k, v.ownBlock = some k → ¬ F k) : Byt lo B v zs := by
  obtain ⟨hw, a, cap, rfl, h1, h3⟩ := h
  refine ⟨hw, a, cap, rfl, h1, fun hz => ?_⟩
  obtain ⟨b, off, rfl, e2, e3, e4, e5⟩ := h3 hz
  have hb := hs.same b e3 (hF b rfl)
  exact ⟨b, off, rfl, e2, Nat.lt_of_lt_of_le e3 hs.size, fun j hj => (World.cell?_of_block (a := ⟨b, off + j, none⟩) hb).trans (e4 j hj), fun j hj => (World.frozen?_of_block (a := ⟨b, off + j, none⟩) hb).trans (e5 j hj)⟩
theorem OwnB.spared {F : Nat → Prop} {lo : Nat} {A B : World} {v : Value} {zs : List Int} (h : OwnB lo A v zs) (hs : Spared F A B) (hF : ∀ k, v.ownBlock = some k → ¬ F k) : OwnB lo B v zs := by
  obtain ⟨⟨h1, h2⟩, hw⟩ := h
  refine ⟨⟨h1, ?_⟩, hw⟩
  rcases h2 with ⟨e, h0⟩ | ⟨g, cap, cur, rfl, hg, hh, hc, hm, hz, ht⟩
  · exact .inl ⟨e, h0⟩
  · exact .inr ⟨g, cap, cur, rfl, hg, (hs.same g (Array.getElem?_eq_some_iff.1 hh).1 (hF g rfl)).trans hh, hc, hm, hz, ht⟩
theorem OwnB.apart {lo k g : Nat} {W : World} {v : Value} {zs : List Int} {cs : Array Value} {t : TypeId} (h : OwnB lo W v zs) (hb : Box W k (.cells cs t (0, 0))) (ht : t ≠ 5) (hg : v.ownBlock = some g) : g ≠ k := by
  rintro rfl
  obtain ⟨⟨_, h2⟩, _⟩ := h
  rcases h2 with ⟨rfl, _⟩ | ⟨g', cap, cur, rfl, _, hh, _⟩
  · cases hg
  · obtain rfl := Option.some.inj hg
    change W.heap[g']? = _ at hh
    rw [hb.what] at hh
    simp only [Option.some.injEq, Obj.cells.injEq] at hh
    exact ht hh.2.1
theorem OwnB.lt {lo g : Nat} {W : World} {v : Value} {zs : List Int} (h : OwnB lo W v zs) (hg : v.ownBlock = some g) : lo ≤ g ∧ g < W.heap.size := h.1.lt g hg
theorem Box.apart {W : World} {k g : Nat} {cs ds : Array Value} {t u : TypeId} (h : Box W k (.cells cs t (0, 0))) (h' : Box W g (.cells ds u (0, 0))) (ht : t ≠ u) : k ≠ g := by
  rintro rfl
  have := h.what.symm.trans h'.what
  simp only [Option.some.injEq, Obj.cells.injEq] at this
  exact ht this.2.1
theorem ownb_on {lo lo' : Nat} {w : World} {a b : Option Addr} {n c m d : Nat} {zs ys : List Int} (h : OwnB lo w (.slice a n c) zs) (Y : Byt lo' w (.slice b m d) ys) (hl : n + m ≤ 1000000) (hlo : lo ≤ w.heap.size) :
    ∃ a' c' w', (Builtin.append_ #[28, 28] 28 #[.slice a n c, .slice b m d]).run Try.prog w = .ok (.slice a' (n + m) c') w' ∧ OwnB lo w' (.slice a' (n + m) c') (zs ++ ys) ∧ Spared (fun k => (Value.slice a n c).ownBlock = some k) w w' ∧ ((Value.slice a' (n + m) c').ownBlock = (Value.slice a n c).ownBlock ∨ (Value.slice a' (n + m) c').ownBlock = some w.heap.size) := by
  obtain ⟨_, _, e1, hB⟩ := ownb_seg h
  simp only [Value.slice.injEq] at e1
  obtain ⟨rfl, hn, rfl⟩ := e1
  have hym := Y.len.1
  by_cases h0 : m = 0
  · subst h0
    obtain rfl : ys = [] := List.length_eq_zero_iff.1 (by omega)
    refine ⟨a, c, w, appendb_none a n c (by have := hB.len.2; omega) b d w _, by simpa using h, Spared.refl _ _, .inl ?_⟩
    cases a <;> rfl
  · obtain ⟨g, o, rfl, _, _⟩ := Y.row (by omega)
    obtain ⟨i0, hi, hz0, hz1, hz2⟩ := info_parts infoU8
    obtain ⟨v', w', hr, hown, hg, _, hat⟩ := run_append_own_at (P := Try.prog) w lo 28 28 5 i0 (.int .u8 0) 1 1 Try.underlying28 hi hz0 hz1 hz2 rfl (by decide)
      _ zs.length (zs.map (Value.int .u8)) h.1 ⟨g, o, none⟩ m d (ys.map (Value.int .u8)) (by simp [hym])
      (fun j u hj => by
        rw [List.getElem?_map] at hj
        obtain ⟨z, hz', rfl⟩ := Option.map_eq_some_iff.1 hj
        have hjl : j < ys.length := (List.getElem?_eq_some_iff.1 hz').1
        have := (Y.cell (j := j) (by omega)).1
        rw [hz'] at this
        rw [Addr.add_lit]
        exact this)
      (fun u hu => by obtain ⟨z, _, rfl⟩ := List.mem_map.1 hu; rfl) (by unfold maxLen; omega) (by omega) hlo
    have hlen : (zs ++ ys).length = zs.length + m := by simp [hym]
    have ho : OwnB lo w' v' (zs ++ ys) := by
      refine ⟨?_, h.2.append Y.words⟩
      rw [hlen, List.map_append]
      exact hown
    obtain ⟨a', c', e, _⟩ := ownb_seg ho
    rw [hlen, ← hn] at e
    subst e
    exact ⟨a', c', w', hr, ho, ⟨⟨hg.os, hg.tape, hg.output, hg.size, fun k hk => absurd hk (Nat.not_lt_zero k)⟩, fun k hk hf => hg.block k hk (fun e => hf e.symm)⟩, hat⟩
theorem four_cells {W : World} {g : Nat} {u v x y : Value} {t : TypeId} (h : Box W g (.cells #[u, v, x, y] t (0, 0))) :
    W.cell? ⟨g, 0, none⟩ = some u ∧ W.cell? ⟨g, 1, none⟩ = some v ∧ W.cell? ⟨g, 2, none⟩ = some x ∧ W.cell? ⟨g, 3, none⟩ = some y ∧ W.frozen? ⟨g, 0, none⟩ = false ∧ W.frozen? ⟨g, 1, none⟩ = false ∧ W.frozen? ⟨g, 2, none⟩ = false ∧ W.frozen? ⟨g, 3, none⟩ = false :=
  ⟨cell_of_heap h.what 0, cell_of_heap h.what 1, cell_of_heap h.what 2, cell_of_heap h.what 3, frozen_of_heap h.what 0, frozen_of_heap h.what 1, frozen_of_heap h.what 2, frozen_of_heap h.what 3⟩
theorem one_of {W : World} {g : Nat} {u : Value} {t : TypeId} (h : Box W g (.cells #[u] t (0, 0))) : W.cell? ⟨g, 0, none⟩ = some u ∧ W.frozen? ⟨g, 0, none⟩ = false := ⟨cell_of_heap h.what 0, frozen_of_heap h.what 0⟩
theorem Box.put1 {W : World} {g : Nat} {cs : Array Value} {t : TypeId} (h : Box W g (.cells cs t (0, 0))) (i : Nat) (v : Value) : Box (W.setCell ⟨g, i, none⟩ v) g (.cells (cs.setIfInBounds i v) t (0, 0)) :=
  ⟨by simpa [World.setCell] using h.lt, heap_setCell_same W g i _ t v h.what⟩
theorem Box.aside {W : World} {g k : Nat} {o : Obj} (h : Box W k o) (i : Nat) (v : Value) (hk : k ≠ g) : Box (W.setCell ⟨g, i, none⟩ v) k o :=
  ⟨by simpa [World.setCell] using h.lt, (Below.heap_setCell _ _ _ _ hk).trans h.what⟩
def MV.v (m : MV) (a : Option Addr) (c : Nat) : Value := .agg #[.int .i64 m.size, .int .i64 m.sym, .int .i64 m.k, .int .i64 m.seed, .slice a m.ts.length c]
theorem five_of {W : World} {g : Nat} {u0 u1 u2 u3 u4 : Value} {t : TypeId} (h : Box W g (.cells #[u0, u1, u2, u3, u4] t (0, 0))) :
    W.cell? ⟨g, 0, none⟩ = some u0 ∧ W.cell? ⟨g, 1, none⟩ = some u1 ∧ W.cell? ⟨g, 2, none⟩ = some u2 ∧ W.cell? ⟨g, 3, none⟩ = some u3 ∧ W.cell? ⟨g, 4, none⟩ = some u4 :=
  ⟨cell_of_heap h.what 0, cell_of_heap h.what 1, cell_of_heap h.what 2, cell_of_heap h.what 3, cell_of_heap h.what 4⟩
theorem five_thaw {W : World} {g : Nat} {cs : Array Value} {t : TypeId} (h : Box W g (.cells cs t (0, 0))) :
    W.frozen? ⟨g, 0, none⟩ = false ∧ W.frozen? ⟨g, 1, none⟩ = false ∧ W.frozen? ⟨g, 2, none⟩ = false ∧ W.frozen? ⟨g, 3, none⟩ = false ∧ W.frozen? ⟨g, 4, none⟩ = false :=
  ⟨frozen_of_heap h.what 0, frozen_of_heap h.what 1, frozen_of_heap h.what 2, frozen_of_heap h.what 3, frozen_of_heap h.what 4⟩
def inB (lo hi n : Int) : Bool := decide (lo ≤ n ∧ n ≤ hi)
theorem inB_yes {lo hi n : Int} (h : lo ≤ n ∧ n ≤ hi) : inB lo hi n = true := decide_eq_true h
theorem inB_no {lo hi n : Int} (h : ¬ (lo ≤ n ∧ n ≤ hi)) : inB lo hi n = false := decide_eq_false h
theorem inB_iff {lo hi n : Int} : inB lo hi n = true ↔ lo ≤ n ∧ n ≤ hi := decide_eq_true_iff
set_option maxRecDepth 100000 in
set_option maxHeartbeats 1000000 in
theorem mfw_any (n lo hi : Int) (w : World) : Calls Try.prog 38 #[.int .i64 n, .int .i64 lo, .int .i64 hi] w fun e w' => e = .returned (.bool (inB lo hi n)) ∧ w' = w := by
  by_cases h1 : lo ≤ n
  · by_cases h2 : n ≤ hi
    · rw [inB_yes ⟨h1, h2⟩]
      go_enter Try.func38, Try.ntmps38
      go_wp2
      go_ret
      exact ⟨rfl, rfl⟩
    · rw [inB_no (fun h => h2 h.2)]
      go_enter Try.func38, Try.ntmps38
      go_wp2
      go_ret
      exact ⟨rfl, rfl⟩
  · rw [inB_no (fun h => h1 h.1)]
    go_enter Try.func38, Try.ntmps38
    go_wp2
    go_ret
    exact ⟨rfl, rfl⟩
set_option maxRecDepth 100000 in
set_option maxHeartbeats 1000000 in
theorem dmw_any (n lo hi : Int) (w : World) : Calls Try.prog 40 #[.int .i64 n, .int .i64 lo, .int .i64 hi] w fun e w' => e = .returned (.bool (inB lo hi n)) ∧ w' = w := by
  by_cases h1 : lo ≤ n
  · by_cases h2 : n ≤ hi
    · rw [inB_yes ⟨h1, h2⟩]
      go_enter Try.func40, Try.ntmps40
      go_wp2
      go_ret
      exact ⟨rfl, rfl⟩
    · rw [inB_no (fun h => h2 h.2)]
      go_enter Try.func40, Try.ntmps40
      go_wp2
      go_ret
      exact ⟨rfl, rfl⟩
  · rw [inB_no (fun h => h1 h.1)]
    go_enter Try.func40, Try.ntmps40
    go_wp2
    go_ret
    exact ⟨rfl, rfl⟩
def posK (ts : List Int) (k : Nat) : Bool := (ts.take k).any fun t => decide (0 < t)
theorem posK_succ {ts : List Int} {k : Nat} (hk : k < ts.length) : posK ts (k + 1) = (posK ts k || decide (0 < ts[k]?.getD 0)) := by
  unfold posK
  rw [List.take_add_one, List.getElem?_eq_getElem hk]
  simp only [Option.toList_some, List.any_append, List.any_cons, List.any_nil, Bool.or_false, Option.getD_some]
theorem wts_parts (ts : List Int) : (∀ k, k < ts.length → ¬ Wt (ts[k]?.getD 0) → wts ts = false) ∧ ((∀ k, k < ts.length → Wt (ts[k]?.getD 0)) → wts ts = posK ts ts.length) := by
  refine ⟨fun k hk h => ?_, fun h => ?_⟩
  · rw [List.getElem?_eq_getElem hk] at h
    have : ts.all (fun t => decide (Wt t)) = false := List.all_eq_false.2 ⟨ts[k], List.getElem_mem hk, by simpa using h⟩
    unfold wts
    rw [this]
    rfl
  · have : ts.all (fun t => decide (Wt t)) = true := List.all_eq_true.2 fun t ht => by
      obtain ⟨k, hk, rfl⟩ := List.getElem_of_mem ht
      have := h k hk
      rw [List.getElem?_eq_getElem hk] at this
      exact decide_eq_true this
    unfold wts posK
    rw [this, List.take_length, Bool.true_and]
set_option maxRecDepth 100000 in
set_option maxHeartbeats 1000000 in
theorem mfweighs_any {lo : Nat} {a : Option Addr} {n c : Nat} {ts : List Int} {w : World} (X : Intz lo w (.slice a n c) ts) (hn : n ≤ 1000000) :
    Calls Try.prog 39 #[.slice a n c] w fun e w' => e = .returned (.bool (wts ts)) ∧ w' = w := by
  obtain ⟨hf, ht⟩ := wts_parts ts
  obtain ⟨C, hC⟩ : ∃ C, wts ts = C := ⟨_, rfl⟩
  have hl := X.len.1
  rw [hC] at hf ht ⊢
  rw [← hl] at hf ht
  have HL := hide hl
  have HF : Hid (∀ k, k < n → ¬ Wt (ts[k]?.getD 0) → C = false) := hf
  have HT : Hid ((∀ k, k < n → Wt (ts[k]?.getD 0)) → C = posK ts n) := ht
  clear hf ht hC hl
  go_enter Try.func39, Try.ntmps39
  go_wp2
  go_loopw [3, 5, 8] (fun sm _ cnt wr => ∃ k : Nat, k ≤ n ∧ cnt = .int .i64 k ∧ sm = .bool (posK ts k) ∧ wr = w ∧ Hid (∀ j, j < k → Wt (ts[j]?.getD 0))) (fun _ _ cnt _ => n + 1 - (intOf cnt).toNat)
  case atStart => exact ⟨0, Nat.zero_le _, rfl, rfl, rfl, fun j h => absurd h (Nat.not_lt_zero _)⟩
  case round =>
    obtain ⟨k, hk, rfl, rfl, rfl, I⟩ := hrel
    by_cases hkn : k < n
    · have hki : (k : Int) < (n : Int) := by omega
      obtain ⟨b, o, rfl, _, _⟩ := X.row (by omega)
      have h1 := (X.cell (j := k) (by omega)).1
      have HP := hide (posK_succ (ts := ts) (k := k) (by have := HL.out; omega))
      have HI := hide (fun h => HF.out k hkn h)
      have HJ : Hid (Wt (ts[k]?.getD 0) → ∀ j, j < k + 1 → Wt (ts[j]?.getD 0)) := fun h j hj => by
        by_cases e : j = k
        · subst e; exact h
        · exact I.out j (by omega)
      obtain ⟨x, hx⟩ : ∃ x, ts[k]?.getD 0 = x := ⟨_, rfl⟩
      rw [hx] at h1 HP HI HJ
      have hc := mfw_any x 0 16777215 wr
      obtain ⟨p, hp⟩ : ∃ p, posK ts k = p := ⟨_, rfl⟩
      rw [hp] at HP ⊢
      clear hx hp I
      go_wp2_with fail
      refine hc.mono ?_
      rintro e w1 ⟨rfl, rfl⟩
      clear hc
      obtain ⟨g, hg⟩ : ∃ g, inB 0 16777215 x = g := ⟨_, rfl⟩
      cases g with
      | false =>
        obtain rfl := HI.out (fun h => by rw [inB_yes h] at hg; cases hg)
        rw [hg]
        clear hg
        go_wp2
        go_ret
        exact ⟨rfl, rfl⟩
      | true =>
        have HG := hide (inB_iff.1 hg)
        rw [hg]
        clear hg
        cases p with
        | true =>
          go_wp2
          exact ⟨⟨k + 1, by omega, by go_num, by rw [HP.out]; rfl, trivial, HJ.out HG.out⟩, by simp [intOf]; omega⟩
        | false =>
          by_cases hx : 0 < x
          · go_wp2
            exact ⟨⟨k + 1, by omega, by go_num, by rw [HP.out, decide_eq_true hx]; rfl, trivial, HJ.out HG.out⟩, by simp [intOf]; omega⟩
          · go_wp2
            exact ⟨⟨k + 1, by omega, by go_num, by rw [HP.out, decide_eq_false (Int.not_lt.2 hx)]; rfl, trivial, HJ.out HG.out⟩, by simp [intOf]; omega⟩
    · obtain rfl : k = n := by omega
      have HC := HT.out (fun j hj => I.out j hj)
      subst HC
      clear HT HF I
      go_wp2
      go_ret
      exact ⟨rfl, rfl⟩
set_option maxRecDepth 100000 in
set_option maxHeartbeats 1000000 in
theorem dmtable_any {lo : Nat} {a : Option Addr} {n c : Nat} {ts : List Int} {w : World} (K : Int) (X : Intz lo w (.slice a n c) ts) (hn : n ≤ 1000000) :
    Calls Try.prog 41 #[.slice a n c, .int .i64 K] w fun e w' => e = .returned (.bool (wts ts && decide ((n : Int) ≤ K))) ∧ w' = w := by
  obtain ⟨hf, ht⟩ := wts_parts ts
  obtain ⟨C, hC⟩ : ∃ C, wts ts = C := ⟨_, rfl⟩
  have hl := X.len.1
  rw [hC] at hf ht ⊢
  rw [← hl] at hf ht
  have HL := hide hl
  have HF : Hid (∀ k, k < n → ¬ Wt (ts[k]?.getD 0) → C = false) := hf
  have HT : Hid ((∀ k, k < n → Wt (ts[k]?.getD 0)) → C = posK ts n) := ht
  clear hf ht hC hl
  obtain ⟨Q, hQ⟩ : ∃ Q, (C && decide ((n : Int) ≤ K)) = Q := ⟨_, rfl⟩
  have HQ := hide hQ
  rw [hQ]
  clear hQ
  go_enter Try.func41, Try.ntmps41
  go_wp2
  go_loopw [5, 6] (fun sm cnt wr => ∃ k : Nat, k ≤ n ∧ cnt = .int .i64 k ∧ sm = .bool (posK ts k) ∧ wr = w ∧ Hid (∀ j, j < k → Wt (ts[j]?.getD 0))) (fun _ cnt _ => n + 1 - (intOf cnt).toNat)
  case atStart => exact ⟨0, Nat.zero_le _, rfl, rfl, rfl, fun j h => absurd h (Nat.not_lt_zero _)⟩
  case round =>
    obtain ⟨k, hk, rfl, rfl, rfl, I⟩ := hrel
    by_cases hkn : k < n
    · have hki : (k : Int) < (n : Int) := by omega
      obtain ⟨b, o, rfl, _, _⟩ := X.row (by omega)
      have h1 := (X.cell (j := k) (by omega)).1
      have HP := hide (posK_succ (ts := ts) (k := k) (by have := HL.out; omega))
      have HI := hide (fun h => HF.out k hkn h)
      have HJ : Hid (Wt (ts[k]?.getD 0) → ∀ j, j < k + 1 → Wt (ts[j]?.getD 0)) := fun h j hj => by
        by_cases e : j = k
        · subst e; exact h
        · exact I.out j (by omega)
      obtain ⟨x, hx⟩ : ∃ x, ts[k]?.getD 0 = x := ⟨_, rfl⟩
      rw [hx] at h1 HP HI HJ
      have hc := dmw_any x 0 16777215 wr
      obtain ⟨p, hp⟩ : ∃ p, posK ts k = p := ⟨_, rfl⟩
      rw [hp] at HP ⊢
      clear hx hp I
      go_wp2_with fail
      refine hc.mono ?_
      rintro e w1 ⟨rfl, rfl⟩
      clear hc
      obtain ⟨g, hg⟩ : ∃ g, inB 0 16777215 x = g := ⟨_, rfl⟩
      cases g with
      | false =>
        obtain rfl := HI.out (fun h => by rw [inB_yes h] at hg; cases hg)
        obtain rfl : false = Q := HQ.out
        rw [hg]
        clear hg
        go_wp2
        go_ret
        exact ⟨rfl, rfl⟩
      | true =>
        have HG := hide (inB_iff.1 hg)
        rw [hg]
        clear hg
        cases p with
        | true =>
          go_wp2
          exact ⟨⟨k + 1, by omega, by go_num, by rw [HP.out]; rfl, trivial, HJ.out HG.out⟩, by simp [intOf]; omega⟩
        | false =>
          by_cases hx : 0 < x
          · go_wp2
            exact ⟨⟨k + 1, by omega, by go_num, by rw [HP.out, decide_eq_true hx]; rfl, trivial, HJ.out HG.out⟩, by simp [intOf]; omega⟩
          · go_wp2
            exact ⟨⟨k + 1, by omega, by go_num, by rw [HP.out, decide_eq_false (Int.not_lt.2 hx)]; rfl, trivial, HJ.out HG.out⟩, by simp [intOf]; omega⟩
    · obtain rfl : k = n := by omega
      have HC := HT.out (fun j hj => I.out j hj)
      rw [← HC]
      clear HT HF I HC
      cases C with
      | false =>
        obtain rfl : false = Q := HQ.out
        go_wp2
        go_ret
        exact ⟨rfl, rfl⟩
      | true =>
        have hd : decide ((k : Int) ≤ K) = Q := by rw [← HQ.out, Bool.true_and]
        clear HQ
        by_cases hK : (k : Int) ≤ K
        · rw [decide_eq_true hK] at hd
          subst hd
          go_wp2
          go_ret
          exact ⟨rfl, rfl⟩
        · rw [decide_eq_false hK] at hd
          subst hd
          go_wp2
          go_ret
          exact ⟨rfl, rfl⟩
def checkM (m : MV) : Int := if MayM m then 0 else 2
theorem checkM_yes {m : MV} (h : MayM m) : checkM m = 0 := if_pos h
theorem checkM_no {m : MV} (h : ¬ MayM m) : checkM m = 2 := if_neg h
theorem wts_pos {ts : List Int} (h : wts ts = true) : 1 ≤ ts.length := by
  unfold wts at h
  rw [Bool.and_eq_true] at h
  cases ts with
  | nil => simp at h
  | cons t ts => simp
theorem may_program (z y k s : Int) (ts : List Int) (n : Nat) (hn : n = ts.length) : MayM ⟨z, y, k, s, ts⟩ ↔ inB 0 4294967295 z = true ∧ inB 1 65535 y = true ∧ inB 1 65536 k = true ∧ 0 ≤ s ∧ inB 1 (min k 10000) n = true ∧ wts ts = true := by
  rw [inB_iff, inB_iff, inB_iff, inB_iff]
  unfold MayM
  dsimp only
  constructor
  · rintro ⟨h1, h2, h3, h4, h5, h6, h7⟩
    have := wts_pos h6
    exact ⟨h1, h2, h3, h4, ⟨by omega, by omega⟩, h6⟩
  · rintro ⟨h1, h2, h3, h4, h5, h6⟩
    exact ⟨h1, h2, h3, h4, by omega, h6, by omega⟩
set_option maxRecDepth 100000 in
set_option maxHeartbeats 2000000 in
theorem mfcheck_any (z y k s : Int) (a : Option Addr) (n c : Nat) (ts : List Int) {lo : Nat} (w : World) (X : Intz lo w (.slice a n c) ts) :
    Calls Try.prog 16 #[.agg #[.int .i64 z, .int .i64 y, .int .i64 k, .int .i64 s, .slice a n c]] w fun e w' => e = .returned (.int .i64 (checkM ⟨z, y, k, s, ts⟩)) ∧ Below w.heap.size w w' := by
  have hm := may_program z y k s ts n X.len.1
  obtain ⟨R, hR⟩ : ∃ R, checkM ⟨z, y, k, s, ts⟩ = R := ⟨_, rfl⟩
  have hno : ∀ q : Prop, (MayM ⟨z, y, k, s, ts⟩ → q) → ¬ q → R = 2 := fun q h hq => by rw [← hR]; exact checkM_no (fun hM => hq (h hM))
  have hok : MayM ⟨z, y, k, s, ts⟩ → R = 0 := fun h => by rw [← hR]; exact checkM_yes h
  have B1 := below_new w (.cells #[.int .i64 z, .int .i64 y, .int .i64 k, .int .i64 s, .slice a n c] 24)
  have HB := hide B1
  have hA := mfw_any z 0 4294967295 (w.alloc (.cells #[.int .i64 z, .int .i64 y, .int .i64 k, .int .i64 s, .slice a n c] 24))
  have hB := mfw_any y 1 65535 (w.alloc (.cells #[.int .i64 z, .int .i64 y, .int .i64 k, .int .i64 s, .slice a n c] 24))
  have hC := mfw_any k 1 65536 (w.alloc (.cells #[.int .i64 z, .int .i64 y, .int .i64 k, .int .i64 s, .slice a n c] 24))
  have hE := mfw_any n 1 (min k 10000) (w.alloc (.cells #[.int .i64 z, .int .i64 y, .int .i64 k, .int .i64 s, .slice a n c] 24))
  have HF := hide (fun h => mfweighs_any (X.below B1) (show n ≤ 1000000 from h))
  have HEn : Hid (inB 1 (min k 10000) n = true → n ≤ 1000000) := fun h => by
    have := inB_iff.1 h
    omega
  rw [hR]
  clear hR B1 X
  obtain ⟨tA, gA⟩ : ∃ t, inB 0 4294967295 z = t := ⟨_, rfl⟩
  obtain ⟨tB, gB⟩ : ∃ t, inB 1 65535 y = t := ⟨_, rfl⟩
  obtain ⟨tC, gC⟩ : ∃ t, inB 1 65536 k = t := ⟨_, rfl⟩
  obtain ⟨tF, gF⟩ : ∃ t, wts ts = t := ⟨_, rfl⟩
  have HFF := HF
  clear HF
  rw [gA] at hA hm
  rw [gB] at hB hm
  rw [gC] at hC hm
  rw [gF] at hm HFF
  have H1 : Hid (tA = false → R = 2) := fun h => hno _ (fun hM => (hm.1 hM).1) (by rw [h]; decide)
  have H2 : Hid (tB = false → R = 2) := fun h => hno _ (fun hM => (hm.1 hM).2.1) (by rw [h]; decide)
  have H3 : Hid (tC = false → R = 2) := fun h => hno _ (fun hM => (hm.1 hM).2.2.1) (by rw [h]; decide)
  have H4 : Hid (¬ 0 ≤ s → R = 2) := fun h => hno _ (fun hM => (hm.1 hM).2.2.2.1) h
  have H5 : Hid (inB 1 (min k 10000) n = false → R = 2) := fun h => hno _ (fun hM => (hm.1 hM).2.2.2.2.1) (by rw [h]; decide)
  have H6 : Hid (tF = false → R = 2) := fun h => hno _ (fun hM => (hm.1 hM).2.2.2.2.2) (by rw [h]; decide)
  have H7 : Hid (tA = true ∧ tB = true ∧ tC = true ∧ 0 ≤ s ∧ inB 1 (min k 10000) n = true ∧ tF = true → R = 0) := fun h => hok (hm.2 h)
  clear hm hno hok gA gB gC gF
  cases tA with
  | false =>
    obtain rfl := H1.out rfl
    clear hB hC hE
    go_enter Try.func16, Try.ntmps16
    go_wp2_with fail
    refine hA.mono ?_
    rintro e w1 ⟨rfl, rfl⟩
    clear hA
    go_wp2
    go_ret
    exact ⟨rfl, HB.out⟩
  | true =>
    cases tB with
    | false =>
      obtain rfl := H2.out rfl
      clear hC hE
      go_enter Try.func16, Try.ntmps16
      go_wp2_with fail
      refine hA.mono ?_
      rintro e w1 ⟨rfl, rfl⟩
      clear hA
      go_wp2_with fail
      refine hB.mono ?_
      rintro e w1 ⟨rfl, rfl⟩
      clear hB
      go_wp2
      go_ret
      exact ⟨rfl, HB.out⟩
    | true =>
      cases tC with
      | false =>
        obtain rfl := H3.out rfl
        clear hE
        go_enter Try.func16, Try.ntmps16
        go_wp2_with fail
        refine hA.mono ?_
        rintro e w1 ⟨rfl, rfl⟩
        clear hA
        go_wp2_with fail
        refine hB.mono ?_
        rintro e w1 ⟨rfl, rfl⟩
        clear hB
        go_wp2_with fail
        refine hC.mono ?_
        rintro e w1 ⟨rfl, rfl⟩
        clear hC
        go_wp2
        go_ret
        exact ⟨rfl, HB.out⟩
      | true =>
        by_cases hs : 0 ≤ s
        · have HS := hide hs
          go_enter Try.func16, Try.ntmps16
          go_wp2_with fail
          refine hA.mono ?_
          rintro e w1 ⟨rfl, rfl⟩
          clear hA
          go_wp2_with fail
          refine hB.mono ?_
          rintro e w1 ⟨rfl, rfl⟩
          clear hB
          go_wp2_with fail
          refine hC.mono ?_
          rintro e w1 ⟨rfl, rfl⟩
          clear hC
          go_wp2_with fail
          refine hE.mono ?_
          rintro e w1 ⟨rfl, rfl⟩
          clear hE
          obtain ⟨tE, gE⟩ : ∃ t, inB 1 (min k 10000) n = t := ⟨_, rfl⟩
          rw [gE] at HEn H5 H7 ⊢
          clear gE
          cases tE with
          | false =>
            obtain rfl := H5.out rfl
            go_wp2
            go_ret
            exact ⟨rfl, HB.out⟩
          | true =>
            have hF := HFF.out (HEn.out rfl)
            clear HFF
            go_wp2_with fail
            refine hF.mono ?_
            rintro e w1 ⟨rfl, rfl⟩
            clear hF
            cases tF with
            | false =>
              obtain rfl := H6.out rfl
              go_wp2
              go_ret
              exact ⟨rfl, HB.out⟩
            | true =>
              obtain rfl := H7.out (by refine ⟨?_, ?_, ?_, HS.out, ?_, ?_⟩ <;> first | trivial | rfl)
              go_wp2
              go_ret
              exact ⟨rfl, HB.out⟩
        · obtain rfl := H4.out hs
          have hs' : s < 0 := by omega
          clear hE
          go_enter Try.func16, Try.ntmps16
          go_wp2_with fail
          refine hA.mono ?_
          rintro e w1 ⟨rfl, rfl⟩
          clear hA
          go_wp2_with fail
          refine hB.mono ?_
          rintro e w1 ⟨rfl, rfl⟩
          clear hB
          go_wp2_with fail
          refine hC.mono ?_
          rintro e w1 ⟨rfl, rfl⟩
          clear hC
          go_wp2
          go_ret
          exact ⟨rfl, HB.out⟩
theorem cut_in {y k : Int} (hy : 1 ≤ y ∧ y ≤ 65535) (hk : 1 ≤ k ∧ k ≤ 65536) : 1 ≤ k * y ∧ k * y ≤ 4294901760 := by
  constructor
  · have := Int.mul_le_mul hk.1 hy.1 (by decide) (by omega)
    omega
  · have := Int.mul_le_mul hk.2 hy.2 (by omega) (by decide)
    omega
theorem wrap_in {x : Int} (h : -9223372036854775808 ≤ x ∧ x < 9223372036854775808) : IntKind.i64.wrap x = x := by rw [IntKind.wrap_i64]; omega
def cntB (z W : Int) : Int := (z + W - 1) / W
theorem cntB_lt {z W b : Int} (hW : 1 ≤ W) (h : b < cntB z W) : b * W < z := by
  have h1 : b + 1 ≤ cntB z W := by omega
  have := (Int.le_ediv_iff_mul_le (by omega : 0 < W)).1 h1
  rw [Int.add_mul] at this
  omega
set_option maxRecDepth 100000 in
set_option maxHeartbeats 1000000 in
theorem mfbytes_any (z y k s : Int) (a : Option Addr) (n c : Nat) (hy : 1 ≤ y ∧ y ≤ 65535) (hk : 1 ≤ k ∧ k ≤ 65536) (w : World) :
    Calls Try.prog 37 #[.agg #[.int .i64 z, .int .i64 y, .int .i64 k, .int .i64 s, .slice a n c]] w fun e w' => e = .returned (.int .i64 (k * y)) ∧ Below w.heap.size w w' := by
  have hi := cut_in hy hk
  have hw : IntKind.i64.wrap (k * y) = k * y := wrap_in (by omega)
  have HB := hide (below_new w (.cells #[.int .i64 z, .int .i64 y, .int .i64 k, .int .i64 s, .slice a n c] 24))
  clear hi hy hk
  go_enter Try.func37, Try.ntmps37
  go_wp2
  go_ret
  exact ⟨rfl, HB.out⟩
set_option maxRecDepth 100000 in
set_option maxHeartbeats 1000000 in
theorem mfcount_any (z y k s : Int) (a : Option Addr) (n c : Nat) (hz : 0 ≤ z ∧ z ≤ 4294967295) (hy : 1 ≤ y ∧ y ≤ 65535) (hk : 1 ≤ k ∧ k ≤ 65536) (w : World) :
    Calls Try.prog 36 #[.agg #[.int .i64 z, .int .i64 y, .int .i64 k, .int .i64 s, .slice a n c]] w fun e w' => e = .returned (.int .i64 (cntB z (k * y))) ∧ Below w.heap.size w w' := by
  have hi := cut_in hy hk
  have B1 := below_new w (.cells #[.int .i64 z, .int .i64 y, .int .i64 k, .int .i64 s, .slice a n c] 24)
  have hb := mfbytes_any z y k s a n c hy hk (w.alloc (.cells #[.int .i64 z, .int .i64 y, .int .i64 k, .int .i64 s, .slice a n c] 24))
  have HR := hide (Box.new w (.cells #[.int .i64 z, .int .i64 y, .int .i64 k, .int .i64 s, .slice a n c] 24))
  have HB := hide B1
  unfold cntB
  obtain ⟨W, hW⟩ : ∃ W, k * y = W := ⟨_, rfl⟩
  rw [hW] at hi hb ⊢
  clear hW hy hk B1
  have h1 : 0 < W := by omega
  have h0 : ¬ W = 0 := by omega
  have hq : 0 ≤ z + W - 1 := by omega
  go_enter Try.func36, Try.ntmps36
  go_wp2_with fail
  refine hb.mono ?_
  rintro e w1 ⟨rfl, b1⟩
  obtain ⟨c0, _, _, _, _⟩ := five_of (HR.out.below b1)
  have HB1 := hide (HB.out.trans (b1.mono HB.out.size))
  clear hb b1 HB HR
  go_wp2
  go_ret
  exact ⟨rfl, HB1.out⟩
set_option maxRecDepth 100000 in
set_option maxHeartbeats 1000000 in
theorem mfhead_any (z y k s : Int) (a : Option Addr) (n c : Nat) (w : World) :
    Calls Try.prog 31 #[.agg #[.int .i64 z, .int .i64 y, .int .i64 k, .int .i64 s, .slice a n c]] w fun e w' => e = .returned (.agg #[.int .i64 z, .int .i64 y, .int .i64 k, .int .i64 s, .int .i64 n]) ∧ Below w.heap.size w w' := by
  have B1 := below_new w (.cells #[.int .i64 z, .int .i64 y, .int .i64 k, .int .i64 s, .slice a n c] 24)
  have B2 := below_new (w.alloc (.cells #[.int .i64 z, .int .i64 y, .int .i64 k, .int .i64 s, .slice a n c] 24)) (.cells #[.int .i64 z, .int .i64 y, .int .i64 k, .int .i64 s, .int .i64 n] 56)
  have P2 := Box.put (w := w.alloc (.cells #[.int .i64 z, .int .i64 y, .int .i64 k, .int .i64 s, .slice a n c] 24)) (k := w.heap.size + 1) (.cells #[.int .i64 z, .int .i64 y, .int .i64 k, .int .i64 s, .int .i64 n] 56) (by simp)
  have HB := hide (B1.trans (B2.mono B1.size))
  obtain ⟨c0, c1, c2, c3, c4⟩ := five_of P2
  clear B1 B2 P2
  go_enter Try.func31, Try.ntmps31
  go_wp2
  refine bodyPost_ret (v := .agg #[.int .i64 z, .int .i64 y, .int .i64 k, .int .i64 s, .int .i64 n]) (by simp [results, Try.f31, go_sem]) rfl ?_
  exact ⟨rfl, HB.out⟩
def fldsV (z y k s : Int) (n : Int) : Array Value := #[.int .i64 4, .int .i64 z, .int .i64 2, .int .i64 y, .int .i64 4, .int .i64 k, .int .i64 8, .int .i64 s, .int .i64 2, .int .i64 n]
set_option maxRecDepth 100000 in
set_option maxHeartbeats 1000000 in
theorem mffields_any (z y k s n : Int) (w : World) :
    Calls Try.prog 32 #[.agg #[.int .i64 z, .int .i64 y, .int .i64 k, .int .i64 s, .int .i64 n]] w fun e w' => e = .returned (.agg (fldsV z y k s n)) ∧ Below w.heap.size w w' := by
  unfold fldsV
  have B1 := below_new w (.cells #[.int .i64 z, .int .i64 y, .int .i64 k, .int .i64 s, .int .i64 n] 56)
  go_enter Try.func32, Try.ntmps32
  go_wp2
  refine bodyPost_ret (v := .agg #[.int .i64 4, .int .i64 z, .int .i64 2, .int .i64 y, .int .i64 4, .int .i64 k, .int .i64 8, .int .i64 s, .int .i64 2, .int .i64 n]) (results_cell_row rfl _ _ (w.heap.size + 1) _ #[.int .i64 4, .int .i64 z, .int .i64 2, .int .i64 y, .int .i64 4, .int .i64 k, .int .i64 8, .int .i64 s, .int .i64 2, .int .i64 n] (0, 0) _ rfl (Box.put (w := w.alloc (.cells #[.int .i64 z, .int .i64 y, .int .i64 k, .int .i64 s, .int .i64 n] 56)) (k := w.heap.size + 1) (.cells #[.int .i64 4, .int .i64 z, .int .i64 2, .int .i64 y, .int .i64 4, .int .i64 k, .int .i64 8, .int .i64 s, .int .i64 2, .int .i64 n] 54) (by simp)).what Try.underlying54 rfl (by kernel_rfl)) rfl ?_
  exact ⟨rfl, B1.trans ((below_new _ _).mono B1.size)⟩
def blocksM (m : MV) : Int := if MayM m then cntB m.size (m.k * m.sym) else 0
def partM (m : MV) (b : Int) : Int × Int × Int := if MayM m then (if 0 ≤ b ∧ b < cntB m.size (m.k * m.sym) then (b * (m.k * m.sym), min (m.k * m.sym) (m.size - b * (m.k * m.sym)), 0) else (0, 0, 3)) else (0, 0, 2)
set_option maxRecDepth 100000 in
set_option maxHeartbeats 1000000 in
theorem mfblocks_any (z y k s : Int) (a : Option Addr) (n c : Nat) (ts : List Int) {lo : Nat} (w : World) (X : Intz lo w (.slice a n c) ts) :
    Calls Try.prog 18 #[.agg #[.int .i64 z, .int .i64 y, .int .i64 k, .int .i64 s, .slice a n c]] w fun e w' => e = .returned (.int .i64 (blocksM ⟨z, y, k, s, ts⟩)) ∧ Below w.heap.size w w' := by
  have B1 := below_new w (.cells #[.int .i64 z, .int .i64 y, .int .i64 k, .int .i64 s, .slice a n c] 24)
  have hc := mfcheck_any z y k s a n c ts _ (X.below B1)
  have HR := hide (Box.new w (.cells #[.int .i64 z, .int .i64 y, .int .i64 k, .int .i64 s, .slice a n c] 24))
  have HB := hide B1
  clear X B1
  unfold blocksM
  dsimp only
  by_cases hM : MayM ⟨z, y, k, s, ts⟩
  · rw [checkM_yes hM] at hc
    rw [if_pos hM]
    have HC := hide (fun V => mfcount_any z y k s a n c hM.1 hM.2.1 hM.2.2.1 V)
    obtain ⟨R, hR⟩ : ∃ R, cntB z (k * y) = R := ⟨_, rfl⟩
    rw [hR] at HC ⊢
    clear hR hM
    go_enter Try.func18, Try.ntmps18
    go_wp2_with fail
    refine hc.mono ?_
    rintro e w1 ⟨rfl, b1⟩
    obtain ⟨c0, c1, c2, c3, c4⟩ := five_of (HR.out.below b1)
    have hC := HC.out w1
    have HB1 := hide (HB.out.trans (b1.mono HB.out.size))
    clear hc b1 HB HR HC
    go_wp2_with fail
    refine hC.mono ?_
    rintro e w2 ⟨rfl, b2⟩
    have HB2 := hide (HB1.out.trans (b2.mono HB1.out.size))
    clear hC b2 HB1
    go_wp2
    go_ret
    exact ⟨rfl, HB2.out⟩
  · rw [checkM_no hM] at hc
    rw [if_neg hM]
    clear hM
    go_enter Try.func18, Try.ntmps18
    go_wp2_with fail
    refine hc.mono ?_
    rintro e w1 ⟨rfl, b1⟩
    have HB1 := hide (HB.out.trans (b1.mono HB.out.size))
    clear hc b1 HB HR
    go_wp2
    go_ret
    exact ⟨rfl, HB1.out⟩
set_option maxRecDepth 100000 in
set_option maxHeartbeats 1000000 in
theorem mfpart_any (z y k s : Int) (a : Option Addr) (n c : Nat) (ts : List Int) (b : Int) {lo : Nat} (w : World) (X : Intz lo w (.slice a n c) ts) :
    Calls Try.prog 13 #[.agg #[.int .i64 z, .int .i64 y, .int .i64 k, .int .i64 s, .slice a n c], .int .i64 b] w fun e w' => e = .returned (.tuple #[.int .i64 (partM ⟨z, y, k, s, ts⟩ b).1, .int .i64 (partM ⟨z, y, k, s, ts⟩ b).2.1, .int .i64 (partM ⟨z, y, k, s, ts⟩ b).2.2]) ∧ Below w.heap.size w w' := by
  have B1 := below_new w (.cells #[.int .i64 z, .int .i64 y, .int .i64 k, .int .i64 s, .slice a n c] 24)
  have hc := mfcheck_any z y k s a n c ts _ (X.below B1)
  have HR := hide (Box.new w (.cells #[.int .i64 z, .int .i64 y, .int .i64 k, .int .i64 s, .slice a n c] 24))
  have HB := hide B1
  clear X B1
  unfold partM
  dsimp only
  by_cases hM : MayM ⟨z, y, k, s, ts⟩
  · rw [checkM_yes hM] at hc
    rw [if_pos hM]
    have HC := hide (fun V => mfcount_any z y k s a n c hM.1 hM.2.1 hM.2.2.1 V)
    have HBy := hide (fun V => mfbytes_any z y k s a n c hM.2.1 hM.2.2.1 V)
    have hi := cut_in hM.2.1 hM.2.2.1
    have hz := hM.1
    dsimp only at hz
    obtain ⟨W, hW⟩ : ∃ W, k * y = W := ⟨_, rfl⟩
    rw [hW] at HC HBy hi ⊢
    clear hW hM
    by_cases hb0 : b < 0
    · rw [if_neg (by omega)]
      dsimp only
      go_enter Try.func13, Try.ntmps13
      go_wp2_with fail
      refine hc.mono ?_
      rintro e w1 ⟨rfl, b1⟩
      have HB1 := hide (HB.out.trans (b1.mono HB.out.size))
      clear hc b1 HB HR HC HBy
      go_wp2
      refine bodyPost_ret (v := .tuple #[.int .i64 0, .int .i64 0, .int .i64 3]) (by simp [results, Try.f13, go_sem]) rfl ?_
      exact ⟨rfl, HB1.out⟩
    · by_cases hb1 : b < cntB z W
      · rw [if_pos ⟨by omega, hb1⟩]
        dsimp only
        have hl := cntB_lt hi.1 hb1
        have hbn : ¬ cntB z W ≤ b := by omega
        have h0 : 0 ≤ b * W := Int.mul_nonneg (by omega) (by omega)
        have hw1 : IntKind.i64.wrap (b * W) = b * W := wrap_in (by omega)
        obtain ⟨F, hF⟩ : ∃ F, b * W = F := ⟨_, rfl⟩
        rw [hF] at hl h0 hw1 ⊢
        have hw2 : IntKind.i64.wrap (z - F) = z - F := wrap_in (by omega)
        have hw3 : IntKind.i64.wrap (b * W) = F := by rw [hF]; exact hw1
        have hb2 : ¬ b < 0 := hb0
        obtain ⟨C, hC⟩ : ∃ C, cntB z W = C := ⟨_, rfl⟩
        rw [hC] at HC hb1 hbn
        clear hC hF hb1 hb0 hw1
        go_enter Try.func13, Try.ntmps13
        go_wp2_with fail
        refine hc.mono ?_
        rintro e w1 ⟨rfl, b1⟩
        obtain ⟨c0, c1, c2, c3, c4⟩ := five_of (HR.out.below b1)
        have HR1 := hide (HR.out.below b1)
        have hC := HC.out w1
        have HB1 := hide (HB.out.trans (b1.mono HB.out.size))
        clear hc b1 HB HR HC
        go_wp2_with fail
        refine hC.mono ?_
        rintro e w2 ⟨rfl, b2⟩
        have HB2 := hide (HB1.out.trans (b2.mono HB1.out.size))
        have HR2 := hide (HR1.out.below b2)
        clear c0 c1 c2 c3 c4 HR1 HB1 hC b2
        obtain ⟨c0, c1, c2, c3, c4⟩ := five_of HR2.out
        have hby := HBy.out w2
        clear HBy
        go_wp2_with fail
        refine hby.mono ?_
        rintro e w3 ⟨rfl, b3⟩
        have HB3 := hide (HB2.out.trans (b3.mono HB2.out.size))
        have HR3 := hide (HR2.out.below b3)
        clear c0 c1 c2 c3 c4 HR2 HB2 hby b3
        obtain ⟨c0, c1, c2, c3, c4⟩ := five_of HR3.out
        go_wp2_with fail
        go_region
        go_wp2
        refine bodyPost_ret (v := .tuple #[.int .i64 F, .int .i64 (min W (z - F)), .int .i64 0]) (by simp [results, Try.f13, go_sem]) rfl ?_
        exact ⟨rfl, HB3.out.drew⟩
      · rw [if_neg (fun h => hb1 h.2)]
        dsimp only
        have hbn : cntB z W ≤ b := by omega
        obtain ⟨C, hC⟩ : ∃ C, cntB z W = C := ⟨_, rfl⟩
        rw [hC] at HC hb1 hbn
        clear hC hb1
        go_enter Try.func13, Try.ntmps13
        go_wp2_with fail
        refine hc.mono ?_
        rintro e w1 ⟨rfl, b1⟩
        obtain ⟨c0, c1, c2, c3, c4⟩ := five_of (HR.out.below b1)
        have hC := HC.out w1
        have HB1 := hide (HB.out.trans (b1.mono HB.out.size))
        clear hc b1 HB HR HC
        go_wp2_with fail
        refine hC.mono ?_
        rintro e w2 ⟨rfl, b2⟩
        have HB2 := hide (HB1.out.trans (b2.mono HB1.out.size))
        clear c0 c1 c2 c3 c4 HB1 hC b2
        go_wp2
        refine bodyPost_ret (v := .tuple #[.int .i64 0, .int .i64 0, .int .i64 3]) (by simp [results, Try.f13, go_sem]) rfl ?_
        exact ⟨rfl, HB2.out⟩
  · rw [checkM_no hM] at hc
    rw [if_neg hM]
    clear hM
    dsimp only
    go_enter Try.func13, Try.ntmps13
    go_wp2_with fail
    refine hc.mono ?_
    rintro e w1 ⟨rfl, b1⟩
    have HB1 := hide (HB.out.trans (b1.mono HB.out.size))
    clear hc b1 HB HR
    go_wp2
    refine bodyPost_ret (v := .tuple #[.int .i64 0, .int .i64 0, .int .i64 2]) (by simp [results, Try.f13, go_sem]) rfl ?_
    exact ⟨rfl, HB1.out⟩
def Cur (W : World) (c : Nat) (sv : Value) (a er fa : Int) : Prop := Box W c (.cells #[sv, .int .i64 a, .int .i64 er, .int .i64 fa] 76)
set_option maxRecDepth 100000 in
set_option maxHeartbeats 1000000 in
theorem ohere_any {c : Nat} {sv : Value} {a x y : Int} {w : World} (C : Cur w c sv a x y) (er : Int) :
    Calls Try.prog 52 #[.pointer (some ⟨c, 0, none⟩), .int .i64 er] w fun e w' => e = .returned (.agg #[.int .i64 er, .int .i64 a]) ∧ Below w.heap.size w w' := by
  have B := below_new w (.cells #[.int .i64 0, .int .i64 0] 71)
  obtain ⟨_, h1, _⟩ := four_cells (C.below B)
  have hn := cell_of_heap (World.alloc_heap_new w (.cells #[.int .i64 0, .int .i64 0] 71)) 0
  clear B C
  go_enter Try.func52, Try.ntmps52
  go_wp2
  refine bodyPost_ret (v := .agg #[.int .i64 er, .int .i64 a]) (by simp [results, Try.f52, go_sem]) rfl ?_
  exact ⟨rfl, below_new w _⟩
set_option maxRecDepth 100000 in
set_option maxHeartbeats 1000000 in
theorem ostep1_any (A B c : Nat) (x y : Int) (p q : Value) (u : FrameMode) (w : World) (hA : w.cell? ⟨A, 0, none⟩ = some (.int .i64 x)) (hA1 : w.cell? ⟨A, 1, none⟩ = some (.int .i64 y)) (hB : w.cell? ⟨B, 0, none⟩ = some (.pointer (some ⟨c, 0, none⟩)))
    (h2 : w.cell? ⟨c, 2, none⟩ = some p) (h3 : w.cell? ⟨c, 3, none⟩ = some q) (f2 : w.frozen? ⟨c, 2, none⟩ = false) (f3 : w.frozen? ⟨c, 3, none⟩ = false) :
    CallsD Try.prog 59 #[.pointer (some ⟨A, 0, none⟩), .pointer (some ⟨B, 0, none⟩)] u w fun e u' w' => u' = u ∧ (e = .returned (.tuple #[]) ∧ w' = (w.setCell ⟨c, 2, none⟩ (.int .i64 x)).setCell ⟨c, 3, none⟩ (.int .i64 y)) := by
  go_enter_d Try.func59, Try.ntmps59
  go_wp2
  go_end0
  exact ⟨rfl, rfl⟩
def stepW (w : World) (c : Nat) (x y : Int) : World := (w.alloc (.cells #[.pointer (some ⟨c, 0, none⟩)] 74)).alloc (.cells #[.int .i64 x, .int .i64 y] 71)
theorem stepW_below (w : World) (c : Nat) (x y : Int) : Below w.heap.size w (stepW w c x y) := by
  have b1 := below_new w (.cells #[.pointer (some ⟨c, 0, none⟩)] 74)
  exact b1.trans ((below_new _ _).mono b1.size)
theorem stepW_size (w : World) (c : Nat) (x y : Int) : (stepW w c x y).heap.size = w.heap.size + 2 := by simp [stepW]
theorem stepW_ptr (w : World) (c : Nat) (x y : Int) : Box (stepW w c x y) w.heap.size (.cells #[.pointer (some ⟨c, 0, none⟩)] 74) := (Box.new w _).below (below_new _ _)
theorem stepW_fault (w : World) (c : Nat) (x y : Int) : Box (stepW w c x y) (w.heap.size + 1) (.cells #[.int .i64 x, .int .i64 y] 71) := Box.put _ (by simp)
theorem Cur.keep {W : World} {c : Nat} {sv : Value} {a er fa : Int} (C : Cur W c sv a er fa) (x y : Int) : Cur ((W.setCell ⟨c, 2, none⟩ (.int .i64 x)).setCell ⟨c, 3, none⟩ (.int .i64 y)) c sv a x y := (Box.put1 C 2 (.int .i64 x)).put1 3 (.int .i64 y)
theorem two_aside (W : World) (c : Nat) (u v : Value) : Spared (fun k => k = c) W ((W.setCell ⟨c, 2, none⟩ u).setCell ⟨c, 3, none⟩ v) := ((Spared.refl (fun k => k = c) W).setCell rfl 2 u).setCell rfl 3 v
set_option maxRecDepth 100000 in
set_option maxHeartbeats 1000000 in
theorem ostep_stays {c : Nat} {sv : Value} {a er fa : Int} {w : World} (C : Cur w c sv a er fa) (h : ¬ er = 0) (J : Nat) (cap : Array Value) :
    Calls Try.prog 49 #[.pointer (some ⟨c, 0, none⟩), .func (.func J) #[] cap] w fun e w' => e = .returned (.agg #[.int .i64 er, .int .i64 fa]) ∧ Cur w' c sv a er fa ∧ Spared (fun k => k = c) w w' := by
  have hmf : ∀ (fn : Fn) (first cap : Array Value) (w : World), (Instr.makeFunc fn first cap).run Try.prog w = .ok (.func fn first cap) w := fun _ _ _ _ => rfl
  have HC := hide C
  obtain ⟨_, _, c2, c3, _, _, g2, g3⟩ := four_cells (HC.out.below (stepW_below w c 0 0))
  have n0 := (stepW_fault w c 0 0).two
  unfold stepW at c2 c3 g2 g3 n0
  obtain ⟨n0, n1, m0, m1⟩ := n0
  clear C
  go_enter_defers Try.func49, Try.ntmps49
  go_wp2
  clear c2 c3 g2 g3 n0 n1 m0 m1
  refine leaves_cons (f := 59) (args := #[.pointer (some ⟨w.heap.size + 1, 0, none⟩), .pointer (some ⟨w.heap.size, 0, none⟩)]) (by simp) (by simp [go_sem]) ?_
  have hW : (w.alloc (.cells #[.pointer (some ⟨c, 0, none⟩)] 74)).alloc (.cells #[.int .i64 er, .int .i64 fa] 71) = stepW w c er fa := rfl
  rw [hW]
  clear hW
  have C2 := HC.out.below (stepW_below w c er fa)
  have B2 := stepW_below w c er fa
  have F2 := stepW_fault w c er fa
  have P2 := stepW_ptr w c er fa
  have S2 := stepW_size w c er fa
  obtain ⟨W, hW⟩ : ∃ W, stepW w c er fa = W := ⟨_, rfl⟩
  rw [hW] at C2 B2 F2 P2 S2 ⊢
  clear hW
  obtain ⟨_, _, c2, c3, _, _, g2, g3⟩ := four_cells C2
  obtain ⟨p0, _⟩ := one_of P2
  obtain ⟨n0, n1, _, _⟩ := F2.two
  refine (ostep1_any _ _ c er fa _ _ .returning W n0 n1 p0 c2 c3 g2 g3).mono ?_
  rintro e u' w'' ⟨rfl, rfl, rfl⟩
  have hcl := HC.out.lt
  have FZ := F2.spared (two_aside W c (.int .i64 er) (.int .i64 fa)) (by omega)
  have CZ := Cur.keep C2 er fa
  have SZ := Spared.ahead B2 (two_aside W c (.int .i64 er) (.int .i64 fa))
  obtain ⟨r0, r1, _, _⟩ := FZ.two
  simp [Leaves, settle, results, Try.results49, go_sem, r0, r1]
  exact ⟨CZ, SZ⟩
set_option maxRecDepth 100000 in
set_option maxHeartbeats 2000000 in
theorem ostep_on {c : Nat} {sv : Value} {a fa : Int} {w : World} (C : Cur w c sv a 0 fa) (J : Nat) (cap : Array Value) (hJ : ∀ (args : Array Value) (w : World), (callFunc J args).run Try.prog w = .ok (.enter J args) w) (F : Nat → Prop) (hF : ∀ k, F k → k < w.heap.size) (Q : Int → Int → Value → Int → World → Prop)
    (hon : ∀ W, Below w.heap.size w W → W.heap.size = w.heap.size + 2 → Calls Try.prog J cap W fun e w2 => ∃ (x y : Int) (sv' : Value) (a' er' fa' : Int), e = .returned (.agg #[.int .i64 x, .int .i64 y]) ∧ Cur w2 c sv' a' er' fa' ∧ Spared (fun k => k = c ∨ F k) W w2 ∧ Q x y sv' a' w2) :
    Calls Try.prog 49 #[.pointer (some ⟨c, 0, none⟩), .func (.func J) #[] cap] w fun e w3 => ∃ (x y : Int) (sv' : Value) (a' : Int) (w2 : World), e = .returned (.agg #[.int .i64 x, .int .i64 y]) ∧ Q x y sv' a' w2 ∧ Cur w3 c sv' a' x y ∧ Spared (fun k => k = c ∨ F k) w w3 ∧ Spared (fun k => k = c ∨ k = w.heap.size + 1) w2 w3 := by
  have hmf : ∀ (fn : Fn) (first cap : Array Value) (w : World), (Instr.makeFunc fn first cap).run Try.prog w = .ok (.func fn first cap) w := fun _ _ _ _ => rfl
  have hon := hon (stepW w c 0 0) (stepW_below w c 0 0) (stepW_size w c 0 0)
  have HC := hide C
  obtain ⟨_, _, c2, c3, _, _, g2, g3⟩ := four_cells (HC.out.below (stepW_below w c 0 0))
  have n0 := (stepW_fault w c 0 0).two
  have HP := hide (stepW_ptr w c 0 0)
  have HFv := hide (stepW_fault w c 0 0)
  have HB := hide (stepW_below w c 0 0)
  have HFF := hide hF
  unfold stepW at c2 c3 g2 g3 n0 hon
  obtain ⟨n0, n1, m0, m1⟩ := n0
  clear C hF
  go_enter_defers Try.func49, Try.ntmps49
  go_wp2_with fail
  refine hon.mono ?_
  rintro e w2 ⟨x, y, sv', a', er', fa', rfl, C2, S2, q⟩
  have HFl := HFF.out
  have hsz := stepW_size w c 0 0
  have hcl := HC.out.lt
  have P2 := HP.out.spared S2 (fun h => h.elim (fun h => by omega) (fun h => by have := HFl _ h; omega))
  have F2 := HFv.out.spared S2 (fun h => h.elim (fun h => by omega) (fun h => by have := HFl _ h; omega))
  have HS2 := hide (Spared.ahead HB.out S2)
  have HC2 := hide C2
  have HP2 := hide P2
  have HQ := hide q
  have HF2 := hide F2
  obtain ⟨_, _, k2, k3, _, _, f2, f3⟩ := four_cells C2
  obtain ⟨n0, n1, m0, m1⟩ := F2.two
  clear hon hsz HFl P2 F2 S2 C2 q c2 c3 g2 g3 HP HFv HB hJ
  go_wp2
  clear k2 k3 f2 f3 n0 n1 m0 m1
  refine leaves_cons (f := 59) (args := #[.pointer (some ⟨w.heap.size + 1, 0, none⟩), .pointer (some ⟨w.heap.size, 0, none⟩)]) (by simp) (by simp [go_sem]) ?_
  have FW := HF2.out.set2 (.int .i64 x) (.int .i64 y)
  have SW : Spared (fun k => k = c ∨ k = w.heap.size + 1) w2 ((w2.setCell ⟨w.heap.size + 1, 0, none⟩ (.int .i64 x)).setCell ⟨w.heap.size + 1, 1, none⟩ (.int .i64 y)) := ((Spared.refl _ w2).setCell (.inr rfl) 0 _).setCell (.inr rfl) 1 _
  have CW : Cur ((w2.setCell ⟨w.heap.size + 1, 0, none⟩ (.int .i64 x)).setCell ⟨w.heap.size + 1, 1, none⟩ (.int .i64 y)) c sv' a' er' fa' := Box.aside (Box.aside HC2.out 0 _ (by omega)) 1 _ (by omega)
  have PW : Box ((w2.setCell ⟨w.heap.size + 1, 0, none⟩ (.int .i64 x)).setCell ⟨w.heap.size + 1, 1, none⟩ (.int .i64 y)) w.heap.size (.cells #[.pointer (some ⟨c, 0, none⟩)] 74) := Box.aside (Box.aside HP2.out 0 _ (by omega)) 1 _ (by omega)
  obtain ⟨W, hW⟩ : ∃ W, (w2.setCell ⟨w.heap.size + 1, 0, none⟩ (.int .i64 x)).setCell ⟨w.heap.size + 1, 1, none⟩ (.int .i64 y) = W := ⟨_, rfl⟩
  rw [hW] at FW SW CW PW ⊢
  clear hW
  obtain ⟨_, _, c2, c3, _, _, g2, g3⟩ := four_cells CW
  obtain ⟨p0, _⟩ := one_of PW
  obtain ⟨n0, n1, _, _⟩ := FW.two
  refine (ostep1_any _ _ c x y _ _ .returning W n0 n1 p0 c2 c3 g2 g3).mono ?_
  rintro e u' w'' ⟨rfl, rfl, rfl⟩
  have FZ := FW.spared (two_aside W c (.int .i64 x) (.int .i64 y)) (by omega)
  have CZ := Cur.keep CW x y
  have SZ := SW.next (two_aside W c (.int .i64 x) (.int .i64 y)) (fun i _ h => Or.inl h)
  have SA := HS2.out.next SZ (fun i hi h => h.elim Or.inl (fun h => by omega))
  obtain ⟨r0, r1, _, _⟩ := FZ.two
  simp [Leaves, settle, results, Try.results49, go_sem, r0, r1]
  exact ⟨x, y, ⟨rfl, rfl⟩, sv', a', w2, HQ.out, CZ, SA, SZ⟩
theorem may_doc (z y k s : Int) (ts : List Int) (n : Nat) (hn : n = ts.length) : MayM ⟨z, y, k, s, ts⟩ ↔ inB 0 4294967295 z = true ∧ inB 1 65535 y = true ∧ inB 1 65536 k = true ∧ 0 ≤ s ∧ n ≤ 10000 ∧ (wts ts && decide ((n : Int) ≤ k)) = true := by
  rw [inB_iff, inB_iff, inB_iff, Bool.and_eq_true, decide_eq_true_iff, hn]
set_option maxRecDepth 100000 in
set_option maxHeartbeats 2000000 in
theorem dmcheck_any (z y k s : Int) (a : Option Addr) (n c : Nat) (ts : List Int) {lo : Nat} (w : World) (X : Intz lo w (.slice a n c) ts) :
    Calls Try.prog 17 #[.agg #[.int .i64 z, .int .i64 y, .int .i64 k, .int .i64 s, .slice a n c]] w fun e w' => e = .returned (.int .i64 (checkM ⟨z, y, k, s, ts⟩)) ∧ Below w.heap.size w w' := by
  have hm := may_doc z y k s ts n X.len.1
  obtain ⟨R, hR⟩ : ∃ R, checkM ⟨z, y, k, s, ts⟩ = R := ⟨_, rfl⟩
  have hno : ∀ q : Prop, (MayM ⟨z, y, k, s, ts⟩ → q) → ¬ q → R = 2 := fun q h hq => by rw [← hR]; exact checkM_no (fun hM => hq (h hM))
  have hok : MayM ⟨z, y, k, s, ts⟩ → R = 0 := fun h => by rw [← hR]; exact checkM_yes h
  have B1 := below_new w (.cells #[.int .i64 z, .int .i64 y, .int .i64 k, .int .i64 s, .slice a n c] 24)
  have HB := hide B1
  have hA := dmw_any z 0 4294967295 (w.alloc (.cells #[.int .i64 z, .int .i64 y, .int .i64 k, .int .i64 s, .slice a n c] 24))
  have hB := dmw_any y 1 65535 (w.alloc (.cells #[.int .i64 z, .int .i64 y, .int .i64 k, .int .i64 s, .slice a n c] 24))
  have hC := dmw_any k 1 65536 (w.alloc (.cells #[.int .i64 z, .int .i64 y, .int .i64 k, .int .i64 s, .slice a n c] 24))
  have HF := hide (fun h => dmtable_any k (X.below B1) (show n ≤ 1000000 from h))
  rw [hR]
  clear hR B1 X
  obtain ⟨tA, gA⟩ : ∃ t, inB 0 4294967295 z = t := ⟨_, rfl⟩
  obtain ⟨tB, gB⟩ : ∃ t, inB 1 65535 y = t := ⟨_, rfl⟩
  obtain ⟨tC, gC⟩ : ∃ t, inB 1 65536 k = t := ⟨_, rfl⟩
  obtain ⟨tF, gF⟩ : ∃ t, (wts ts && decide ((n : Int) ≤ k)) = t := ⟨_, rfl⟩
  have HFF := HF
  clear HF
  rw [gA] at hA hm
  rw [gB] at hB hm
  rw [gC] at hC hm
  rw [gF] at hm HFF
  have H1 : Hid (tA = false → R = 2) := fun h => hno _ (fun hM => (hm.1 hM).1) (by rw [h]; decide)
  have H2 : Hid (tB = false → R = 2) := fun h => hno _ (fun hM => (hm.1 hM).2.1) (by rw [h]; decide)
  have H3 : Hid (tC = false → R = 2) := fun h => hno _ (fun hM => (hm.1 hM).2.2.1) (by rw [h]; decide)
  have H4 : Hid (¬ 0 ≤ s → R = 2) := fun h => hno _ (fun hM => (hm.1 hM).2.2.2.1) h
  have H5 : Hid (¬ n ≤ 10000 → R = 2) := fun h => hno _ (fun hM => (hm.1 hM).2.2.2.2.1) h
  have H6 : Hid (tF = false → R = 2) := fun h => hno _ (fun hM => (hm.1 hM).2.2.2.2.2) (by rw [h]; decide)
  have H7 : Hid (tA = true ∧ tB = true ∧ tC = true ∧ 0 ≤ s ∧ n ≤ 10000 ∧ tF = true → R = 0) := fun h => hok (hm.2 h)
  clear hm hno hok gA gB gC gF
  cases tA with
  | false =>
    obtain rfl := H1.out rfl
    clear hB hC
    go_enter Try.func17, Try.ntmps17
    go_wp2_with fail
    refine hA.mono ?_
    rintro e w1 ⟨rfl, rfl⟩
    clear hA
    go_wp2
    go_ret
    exact ⟨rfl, HB.out⟩
  | true =>
    cases tB with
    | false =>
      obtain rfl := H2.out rfl
      clear hC
      go_enter Try.func17, Try.ntmps17
      go_wp2_with fail
      refine hA.mono ?_
      rintro e w1 ⟨rfl, rfl⟩
      clear hA
      go_wp2_with fail
      refine hB.mono ?_
      rintro e w1 ⟨rfl, rfl⟩
      clear hB
      go_wp2
      go_ret
      exact ⟨rfl, HB.out⟩
    | true =>
      cases tC with
      | false =>
        obtain rfl := H3.out rfl
        go_enter Try.func17, Try.ntmps17
        go_wp2_with fail
        refine hA.mono ?_
        rintro e w1 ⟨rfl, rfl⟩
        clear hA
        go_wp2_with fail
        refine hB.mono ?_
        rintro e w1 ⟨rfl, rfl⟩
        clear hB
        go_wp2_with fail
        refine hC.mono ?_
        rintro e w1 ⟨rfl, rfl⟩
        clear hC
        go_wp2
        go_ret
        exact ⟨rfl, HB.out⟩
      | true =>
        by_cases hs : 0 ≤ s
        · have HS := hide hs
          have hs' : ¬ s < 0 := by omega
          clear hs
          by_cases hn : n ≤ 10000
          · have HN := hide hn
            have hn' : ¬ 10000 < (n : Int) := by omega
            have hF := HFF.out (by omega)
            clear HFF hn
            go_enter Try.func17, Try.ntmps17
            go_wp2_with fail
            refine hA.mono ?_
            rintro e w1 ⟨rfl, rfl⟩
            clear hA
            go_wp2_with fail
            refine hB.mono ?_
            rintro e w1 ⟨rfl, rfl⟩
            clear hB
            go_wp2_with fail
            refine hC.mono ?_
            rintro e w1 ⟨rfl, rfl⟩
            clear hC
            go_wp2_with fail
            refine hF.mono ?_
            rintro e w1 ⟨rfl, rfl⟩
            clear hF
            cases tF with
            | false =>
              obtain rfl := H6.out rfl
              go_wp2
              go_ret
              exact ⟨rfl, HB.out⟩
            | true =>
              obtain rfl := H7.out (by refine ⟨?_, ?_, ?_, HS.out, HN.out, ?_⟩ <;> first | trivial | rfl)
              go_wp2
              go_ret
              exact ⟨rfl, HB.out⟩
          · obtain rfl := H5.out hn
            have hn' : 10000 < (n : Int) := by omega
            clear hn
            go_enter Try.func17, Try.ntmps17
            go_wp2_with fail
            refine hA.mono ?_
            rintro e w1 ⟨rfl, rfl⟩
            clear hA
            go_wp2_with fail
            refine hB.mono ?_
            rintro e w1 ⟨rfl, rfl⟩
            clear hB
            go_wp2_with fail
            refine hC.mono ?_
            rintro e w1 ⟨rfl, rfl⟩
            clear hC
            go_wp2
            go_ret
            exact ⟨rfl, HB.out⟩
        · obtain rfl := H4.out hs
          have hs' : s < 0 := by omega
          go_enter Try.func17, Try.ntmps17
          go_wp2_with fail
          refine hA.mono ?_
          rintro e w1 ⟨rfl, rfl⟩
          clear hA
          go_wp2_with fail
          refine hB.mono ?_
          rintro e w1 ⟨rfl, rfl⟩
          clear hB
          go_wp2_with fail
          refine hC.mono ?_
          rintro e w1 ⟨rfl, rfl⟩
          clear hC
          go_wp2
          go_ret
          exact ⟨rfl, HB.out⟩
set_option maxRecDepth 100000 in
set_option maxHeartbeats 1000000 in
theorem dmblocks_any (z y k s : Int) (a : Option Addr) (n c : Nat) (ts : List Int) {lo : Nat} (w : World) (X : Intz lo w (.slice a n c) ts) :
    Calls Try.prog 19 #[.agg #[.int .i64 z, .int .i64 y, .int .i64 k, .int .i64 s, .slice a n c]] w fun e w' => e = .returned (.int .i64 (blocksM ⟨z, y, k, s, ts⟩)) ∧ Below w.heap.size w w' := by
  have B1 := below_new w (.cells #[.int .i64 z, .int .i64 y, .int .i64 k, .int .i64 s, .slice a n c] 24)
  have hc := dmcheck_any z y k s a n c ts _ (X.below B1)
  have HR := hide (Box.new w (.cells #[.int .i64 z, .int .i64 y, .int .i64 k, .int .i64 s, .slice a n c] 24))
  have HB := hide B1
  clear X B1
  unfold blocksM
  dsimp only
  by_cases hM : MayM ⟨z, y, k, s, ts⟩
  · rw [checkM_yes hM] at hc
    rw [if_pos hM]
    have hi := cut_in hM.2.1 hM.2.2.1
    have hz := hM.1
    dsimp only at hi hz
    have hw : IntKind.i64.wrap (k * y) = k * y := wrap_in (by omega)
    unfold cntB
    have h1 : 0 < k * y := by omega
    have h0 : ¬ k * y = 0 := by omega
    have hq : 0 ≤ z + k * y - 1 := by omega
    have hw1 : IntKind.i64.wrap (z + k * y) = z + k * y := wrap_in (by omega)
    have hw2 : IntKind.i64.wrap (z + k * y - 1) = z + k * y - 1 := wrap_in (by omega)
    obtain ⟨W, hW⟩ : ∃ W, k * y = W := ⟨_, rfl⟩
    rw [hW] at h1 h0 hq hi hw1 hw2 hw ⊢
    have hw' : IntKind.i64.wrap (k * y) = W := by rw [hW]; exact hw
    clear hW hM hw
    go_enter Try.func19, Try.ntmps19
    go_wp2_with fail
    refine hc.mono ?_
    rintro e w1 ⟨rfl, b1⟩
    obtain ⟨c0, c1, c2, c3, c4⟩ := five_of (HR.out.below b1)
    have HB1 := hide (HB.out.trans (b1.mono HB.out.size))
    clear hc b1 HB HR
    go_wp2
    go_ret
    exact ⟨rfl, HB1.out⟩
  · rw [checkM_no hM] at hc
    rw [if_neg hM]
    clear hM
    go_enter Try.func19, Try.ntmps19
    go_wp2_with fail
    refine hc.mono ?_
    rintro e w1 ⟨rfl, b1⟩
    have HB1 := hide (HB.out.trans (b1.mono HB.out.size))
    clear hc b1 HB HR
    go_wp2
    go_ret
    exact ⟨rfl, HB1.out⟩
set_option maxRecDepth 100000 in
set_option maxHeartbeats 1000000 in
theorem dmpart_any (z y k s : Int) (a : Option Addr) (n c : Nat) (ts : List Int) (b : Int) {lo : Nat} (w : World) (X : Intz lo w (.slice a n c) ts) :
    Calls Try.prog 14 #[.agg #[.int .i64 z, .int .i64 y, .int .i64 k, .int .i64 s, .slice a n c], .int .i64 b] w fun e w' => e = .returned (.tuple #[.int .i64 (partM ⟨z, y, k, s, ts⟩ b).1, .int .i64 (partM ⟨z, y, k, s, ts⟩ b).2.1, .int .i64 (partM ⟨z, y, k, s, ts⟩ b).2.2]) ∧ Below w.heap.size w w' := by
  have B1 := below_new w (.cells #[.int .i64 z, .int .i64 y, .int .i64 k, .int .i64 s, .slice a n c] 24)
  have hc := dmcheck_any z y k s a n c ts _ (X.below B1)
  have HR := hide (Box.new w (.cells #[.int .i64 z, .int .i64 y, .int .i64 k, .int .i64 s, .slice a n c] 24))
  have HB := hide B1
  have XX := X
  clear X
  unfold partM
  dsimp only
  by_cases hM : MayM ⟨z, y, k, s, ts⟩
  · rw [checkM_yes hM] at hc
    rw [if_pos hM]
    have X1 := XX.below B1
    have HC := hide (fun (V : World) (hV : Below (w.alloc (.cells #[.int .i64 z, .int .i64 y, .int .i64 k, .int .i64 s, .slice a n c] 24)).heap.size (w.alloc (.cells #[.int .i64 z, .int .i64 y, .int .i64 k, .int .i64 s, .slice a n c] 24)) V) => dmblocks_any z y k s a n c ts V (X1.below hV))
    clear X1 XX B1
    unfold blocksM at HC
    rw [if_pos hM] at HC
    have hi := cut_in hM.2.1 hM.2.2.1
    have hz := hM.1
    have hk := hM.2.2.1
    have hy := hM.2.1
    dsimp only at hz hk hy HC hi
    obtain ⟨W, hW⟩ : ∃ W, k * y = W := ⟨_, rfl⟩
    have hwk : IntKind.i64.wrap (k * y) = W := by rw [wrap_in (by omega), hW]
    rw [hW] at HC hi ⊢
    clear hM
    by_cases hb0 : b < 0
    · rw [if_neg (by omega)]
      dsimp only
      go_enter Try.func14, Try.ntmps14
      go_wp2_with fail
      refine hc.mono ?_
      rintro e w1 ⟨rfl, b1⟩
      have HB1 := hide (HB.out.trans (b1.mono HB.out.size))
      clear hc b1 HB HR HC
      go_wp2
      refine bodyPost_ret (v := .tuple #[.int .i64 0, .int .i64 0, .int .i64 3]) (by simp [results, Try.f14, go_sem]) rfl ?_
      exact ⟨rfl, HB1.out⟩
    · by_cases hb1 : b < cntB z W
      · rw [if_pos ⟨by omega, hb1⟩]
        dsimp only
        have hl := cntB_lt hi.1 hb1
        have hbn : ¬ cntB z W ≤ b := by omega
        have h0 : 0 ≤ b * W := Int.mul_nonneg (by omega) (by omega)
        have hbk0 : 0 ≤ b * k := Int.mul_nonneg (by omega) (by omega)
        have hbk : b * k ≤ b * k * y := by
          have := Int.mul_le_mul_of_nonneg_left hy.1 hbk0
          omega
        have hass : b * k * y = b * W := by rw [Int.mul_assoc, hW]
        rw [hass] at hbk
        obtain ⟨F, hF⟩ : ∃ F, b * W = F := ⟨_, rfl⟩
        rw [hF] at hl h0 hass hbk ⊢
        have hw1 : IntKind.i64.wrap (b * k) = b * k := wrap_in (by omega)
        have hw2 : IntKind.i64.wrap (z - F) = z - F := wrap_in (by omega)
        have hw3 : IntKind.i64.wrap (b * k * y) = F := by rw [wrap_in (by omega), hass]
        have hb2 : ¬ b < 0 := hb0
        obtain ⟨C, hC⟩ : ∃ C, cntB z W = C := ⟨_, rfl⟩
        rw [hC] at HC hb1 hbn
        clear hC hF hb1 hb0 hass hbk hW hbk0 hy hk
        go_enter Try.func14, Try.ntmps14
        go_wp2_with fail
        refine hc.mono ?_
        rintro e w1 ⟨rfl, b1⟩
        obtain ⟨c0, c1, c2, c3, c4⟩ := five_of (HR.out.below b1)
        have HR1 := hide (HR.out.below b1)
        have hC := HC.out w1 b1
        have HB1 := hide (HB.out.trans (b1.mono HB.out.size))
        clear hc b1 HB HR HC
        go_wp2_with fail
        refine hC.mono ?_
        rintro e w2 ⟨rfl, b2⟩
        have HB2 := hide (HB1.out.trans (b2.mono HB1.out.size))
        have HR2 := hide (HR1.out.below b2)
        clear c0 c1 c2 c3 c4 HR1 HB1 hC b2
        obtain ⟨c0, c1, c2, c3, c4⟩ := five_of HR2.out
        go_wp2_with fail
        go_region
        go_wp2
        refine bodyPost_ret (v := .tuple #[.int .i64 F, .int .i64 (min W (z - F)), .int .i64 0]) (by simp [results, Try.f14, go_sem]) rfl ?_
        exact ⟨rfl, HB2.out.drew⟩
      · rw [if_neg (fun h => hb1 h.2)]
        dsimp only
        have hbn : cntB z W ≤ b := by omega
        obtain ⟨C, hC⟩ : ∃ C, cntB z W = C := ⟨_, rfl⟩
        rw [hC] at HC hb1 hbn
        clear hC hb1 hW hk hy
        go_enter Try.func14, Try.ntmps14
        go_wp2_with fail
        refine hc.mono ?_
        rintro e w1 ⟨rfl, b1⟩
        obtain ⟨c0, c1, c2, c3, c4⟩ := five_of (HR.out.below b1)
        have hC := HC.out w1 b1
        have HB1 := hide (HB.out.trans (b1.mono HB.out.size))
        clear hc b1 HB HR HC
        go_wp2_with fail
        refine hC.mono ?_
        rintro e w2 ⟨rfl, b2⟩
        have HB2 := hide (HB1.out.trans (b2.mono HB1.out.size))
        clear c0 c1 c2 c3 c4 HB1 hC b2
        go_wp2
        refine bodyPost_ret (v := .tuple #[.int .i64 0, .int .i64 0, .int .i64 3]) (by simp [results, Try.f14, go_sem]) rfl ?_
        exact ⟨rfl, HB2.out⟩
  · rw [checkM_no hM] at hc
    rw [if_neg hM]
    clear hM
    dsimp only
    go_enter Try.func14, Try.ntmps14
    go_wp2_with fail
    refine hc.mono ?_
    rintro e w1 ⟨rfl, b1⟩
    have HB1 := hide (HB.out.trans (b1.mono HB.out.size))
    clear hc b1 HB HR
    go_wp2
    refine bodyPost_ret (v := .tuple #[.int .i64 0, .int .i64 0, .int .i64 2]) (by simp [results, Try.f14, go_sem]) rfl ?_
    exact ⟨rfl, HB1.out⟩
end Go.Proofs.Ytbebdeaeegcfkaa
