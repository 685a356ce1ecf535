/-
  Joined: Widen Own Turns Intz.
-/
import Derived.Test.YtejocefblpkdjabGreatSeg
import Derived.Lib.AppendZerosOnto
import Derived.Lib.SliceRun
import Derived.Laws.IdiomCopy
import Derived.Laws.CopyOwn
import Derived.RangeFuncRecord
import Derived.OwnWalk
namespace Go.Proofs.YtejocefblpkdjabGreat
open Go.RowKit
theorem infoU64 : (Tryz.prog.info? 71).map (fun i => (i.zero, i.size, i.bytes)) = some (some (.int .u64 0), 1, 8) := by kernel_rfl
theorem zeroU64 (w : World) : (zeroValue 71).run Tryz.prog w = .ok (.int .u64 0) w := by kernel_rfl
theorem zeroCells_u64 (n : Nat) : Builtin.zeroCells (Value.int .u64 0).cells n = Array.replicate n (.int .u64 0) := by
  simp only [Builtin.zeroCells, Value.cells]
  apply Array.ext
  · simp
  · intro i h1 h2; simp [Nat.mod_one]
set_option maxHeartbeats 1000000 in
set_option maxRecDepth 100000 in
theorem grow_nil_zero (w : World) : Calls Tryz.prog 93 #[.slice none 0 0, .int .i64 0] w fun e w' => e = .returned (.slice none 0 0) ∧ w' = w := by
  go_enter Tryz.func93, Tryz.ntmps93
  go_wp2
  go_ret
  exact ⟨rfl, rfl⟩
set_option maxHeartbeats 1000000 in
set_option maxRecDepth 100000 in
theorem grow_nil (n : Nat) (h0 : 0 < n) (hn : n ≤ 1000000) (w : World) : Calls Tryz.prog 93 #[.slice none 0 0, .int .i64 n] w fun e w' =>
    ∃ G, n ≤ G ∧ e = .returned (.slice (some ⟨w.heap.size, 0, none⟩) 0 G) ∧ w' = w.drew.alloc (.cells (Array.replicate G (.int .u64 0)) 71) := by
  obtain ⟨i0, hi, hz0, hz1, hz2⟩ := info_parts infoU64
  have hGn : n ≤ grownCap w n 0 71 := grownCap_ge w _ _ _
  have hrz : ∀ ty, (Builtin.append_ #[27, 3] ty #[.slice none 0 0, .int .i64 (n : Int)]).run Tryz.prog w =
      .ok (.slice (some ⟨w.heap.size, 0, none⟩) n (grownCap w n 0 71)) (w.drew.alloc (.cells (Array.replicate (grownCap w n 0 71) (.int .u64 0)) 71)) := fun ty => by
    have h := Lib.run_append_grow_zeros w 27 3 ty 71 i0 (.int .u64 0) .i64 .i64 Tryz.underlying27 Tryz.underlying3 hi hz0 none 0 0 [] (run_firstCells_none w.drew i0.size 0 0 0) n h0 (by omega) (by omega) (by omega)
      (by rw [hz2]; omega) (by rw [hz2, Nat.zero_add, nextslicecap_zero h0]; omega)
    rw [Nat.zero_add, zeroCells_u64, zeroCells_u64] at h
    rw [h]
    congr 3
    simp
    omega
  obtain ⟨G, hG⟩ : ∃ G, G = grownCap w n 0 71 := ⟨_, rfl⟩
  rw [← hG] at hrz hGn
  clear hG hi hz0 hz1 hz2
  have h1 : ¬ ((n : Int) < 0) := by omega
  have h4 : (n : Int) > 0 := by omega
  go_enter Tryz.func93, Tryz.ntmps93
  go_wp2_with (at_builtin; refine Lib.wpList_append_run _ rfl _ _ _ _ rfl _ _ rfl rfl _ _ (hrz _) ?_)
  all_goals (go_ret; exact ⟨G, hGn, rfl, rfl⟩)
theorem below_setCells {B g : Nat} (hg : B ≤ g) {a : World} : ∀ (vs : List Value) (o : Nat) (w : World), Below B a w → Below B a (w.setCells g o vs)
  | [], _, _, h => h
  | v :: r, o, w, h => below_setCells hg r (o + 1) (w.setCell ⟨g, o, none⟩ v) (h.setCell (p := ⟨g, o, none⟩) hg v)
theorem size_setCells (g : Nat) : ∀ (vs : List Value) (o : Nat) (w : World), (w.setCells g o vs).heap.size = w.heap.size
  | [], _, _ => rfl
  | v :: r, o, w => (size_setCells g r (o + 1) (w.setCell ⟨g, o, none⟩ v)).trans (by simp [World.setCell])
theorem cell_of_heap {w : World} {g : Nat} {cur : Array Value} {t : TypeId} {fr : Nat × Nat} (h : w.heap[g]? = some (.cells cur t fr)) (j : Nat) : w.cell? ⟨g, j, none⟩ = cur[j]? := by
  simp [World.cell?, h]
theorem frozen_of_heap {w : World} {g : Nat} {cur : Array Value} {t : TypeId} (h : w.heap[g]? = some (.cells cur t (0, 0))) (j : Nat) : w.frozen? ⟨g, j, none⟩ = false := by
  simp [World.frozen?, h]
theorem append_none (s : Option Addr) (k G : Nat) (hk : k ≤ G) (a : Option Addr) (cap : Nat) (w : World) (ty : TypeId) : (Builtin.append_ #[27, 27] ty #[.slice s k G, .slice a 0 cap]).run Tryz.prog w = .ok (.slice s k G) w := by
  obtain ⟨i0, hi, hz0, hz1, hz2⟩ := info_parts infoU64
  have hf : (Builtin.firstCells i0.size 0 (.slice a 0 cap)).run Tryz.prog w = .ok #[] w := by
    cases a with
    | none => exact run_firstCells_none w i0.size 0 0 cap
    | some a => exact run_firstCells_some w i0.size 0 a 0 cap [] (by simp) (by simp)
  cases s <;> simp [Builtin.append_, run_underlying Tryz.underlying27, sizeOf, typeInfo, hi, Builtin.lenOf, hf, hk, storeCells]
theorem clear_none (a : Option Addr) (c : Nat) (w : World) (ty : TypeId) : (Builtin.clear_ #[27] ty #[.slice a 0 c]).run Tryz.prog w = .ok (.tuple #[]) w := by
  cases a <;> simp [Builtin.clear_, run_underlying Tryz.underlying27]
set_option maxHeartbeats 1000000 in
set_option maxRecDepth 100000 in
theorem widen_zero (a : Option Addr) (cap : Nat) (w : World) : Calls Tryz.prog 78 #[.slice a 0 cap, .int .i64 0] w fun e w' => e = .returned (.slice none 0 0) ∧ w' = w := by
  have hap := append_none none 0 0 (Nat.le_refl _) a cap w
  go_enter Tryz.func78, Tryz.ntmps78
  go_wp2_with (first
    | (go_at_call 93; refine (grow_nil_zero _).mono ?_; rintro e w' ⟨rfl, rfl⟩)
    | (at_builtin; refine Lib.wpList_append_run _ rfl _ _ _ _ rfl _ _ rfl rfl _ _ (hap _) ?_))
  simp only [clear_none]
  go_wp2
  go_ret
  exact ⟨rfl, rfl⟩
theorem append_room {lo : Nat} {a : Option Addr} {cap G N : Nat} {zs : List Int} {w w1 : World} (h : Seg lo w (.slice a zs.length cap) zs) (hl : zs.length ≤ G) (hb : Below w.heap.size w w1) (hN : w.heap.size ≤ N)
    (cur : Array Value) (hc : w1.heap[N]? = some (.cells cur 71 (0, 0))) (hs : cur.size = G) : ∃ w2 cur2, (∀ ty, (Builtin.append_ #[27, 27] ty #[.slice (some ⟨N, 0, none⟩) 0 G, .slice a zs.length cap]).run Tryz.prog w1 = .ok (.slice (some ⟨N, 0, none⟩) zs.length G) w2) ∧
      w2.heap[N]? = some (.cells cur2 71 (0, 0)) ∧ cur2.size = G ∧ (∀ j, j < zs.length → cur2[j]? = some (.int .u64 (zs[j]?.getD 0))) ∧ Below w.heap.size w w2 := by
  obtain ⟨i0, hi, hz0, hz1, hz2⟩ := info_parts infoU64
  by_cases hz : zs = []
  · subst hz
    exact ⟨w1, cur, fun ty => append_none _ 0 G (Nat.zero_le _) a cap w1 ty, hc, hs, fun j hj => by simp at hj, hb⟩
  · obtain ⟨hw, a', cap', e, _, h3⟩ := h
    simp only [Value.slice.injEq] at e
    obtain ⟨rfl, _, rfl⟩ := e
    obtain ⟨b, off, rfl, e2, e3, e4, e5⟩ := h3 hz
    have hnl : (zs.map fun z => Value.int .u64 z).length = zs.length * i0.size := by simp [hz1]
    have hr := fun ty => run_append_room (P := Tryz.prog) w1 27 ty 71 i0 Tryz.underlying27 hi N 0 G cur hc ⟨b, off, none⟩ zs.length cap (zs.map fun z => Value.int .u64 z) hnl
      (fun j u hj => by
        rw [List.getElem?_map] at hj
        obtain ⟨z, hz', rfl⟩ := Option.map_eq_some_iff.1 hj
        have hjl : j < zs.length := (List.getElem?_eq_some_iff.1 hz').1
        have := (hb.cell (p := ⟨b, off + j, none⟩) e3).trans (e4 j hjl)
        rw [hz'] at this
        rw [Addr.add_lit]
        exact this)
      (fun u hu => by obtain ⟨z, _, rfl⟩ := List.mem_map.1 hu; rfl) (by omega) (by simp [hs]; omega)
    simp only [Nat.zero_mul, Nat.zero_add, List.take_zero, List.nil_append] at hr
    refine ⟨_, _, hr, setRow_heap _ _ _ _ _ _ hc, by simp; omega, fun j hj => ?_, below_setRow hb hN _⟩
    simp [List.getElem?_append_left, hj]
set_option maxHeartbeats 600000 in
set_option maxRecDepth 100000 in
theorem widen_any {lo : Nat} {a : Option Addr} {cap : Nat} {zs : List Int} {w : World} (h : Seg lo w (.slice a zs.length cap) zs) (size : Nat) (hl : zs.length ≤ size) (hn : size ≤ 1000000) :
    Calls Tryz.prog 78 #[.slice a zs.length cap, .int .i64 size] w fun e w' => ∃ (a' : Option Addr) (cap' : Nat), e = .returned (.slice a' size cap') ∧ Seg w.heap.size w' (.slice a' size cap') (zs ++ List.replicate (size - zs.length) 0) ∧ Below w.heap.size w w' := by
  by_cases h0 : size = 0
  · subst h0
    obtain rfl : zs = [] := List.length_eq_zero_iff.1 (by omega)
    refine (widen_zero a cap w).mono ?_
    rintro e w' ⟨rfl, rfl⟩
    exact ⟨none, 0, rfl, Seg.nil _ _, Below.refl _ _⟩
  · have hw := h.words
    have hg := grow_nil size (by omega) hn w
    refine Calls.mono (R := fun e w' => ∃ G, size ≤ G ∧ e = .returned (.slice (some ⟨w.heap.size, 0, none⟩) size G) ∧ w.heap.size < w'.heap.size ∧ (∀ j, j < size → w'.cell? ⟨w.heap.size, j, none⟩ = some (.int .u64 ((zs ++ List.replicate (size - zs.length) 0)[j]?.getD 0))) ∧ (∀ j, w'.frozen? ⟨w.heap.size, j, none⟩ = false) ∧ Below w.heap.size w w') ?_ ?_
    · have hl0 : (0 : Int) ≤ (zs.length : Int) := by omega
      have hls : (zs.length : Int) ≤ (size : Int) := by omega
      by_cases hsz : size = zs.length
      · have hsz0 : size - zs.length = 0 := by omega
        have Hsz : Hid (size = zs.length) := hsz
        clear hsz
        go_enter Tryz.func78, Tryz.ntmps78
        go_wp2_with fail
        refine hg.mono ?_
        rintro e w1 ⟨G, hG, rfl, hw1⟩
        have hN : w1.heap[w.heap.size]? = some (.cells (Array.replicate G (.int .u64 0)) 71 (0, 0)) := by rw [hw1]; exact World.alloc_heap_new w.drew _
        have hb1 : Below w.heap.size w w1 := by rw [hw1]; exact (Below.refl _ w).drew.alloc (Nat.le_refl _) _
        obtain ⟨w2, cur2, hap, hc2, hs2, hcur2, hb2⟩ := append_room h (Nat.le_trans hl hG) hb1 (Nat.le_refl _) _ hN (by simp)
        clear hw1 hg
        go_wp2_with (at_builtin; refine Lib.wpList_append_run _ rfl _ _ _ _ rfl _ _ rfl rfl _ _ (hap _) ?_)
        all_goals
          simp only [clear_none]
          go_wp2
          go_ret
          refine ⟨_, ?_, rfl, (Array.getElem?_eq_some_iff.1 hc2).1, fun j hj => ?_, frozen_of_heap hc2, hb2⟩
          · have := Hsz.out; omega
          · have := Hsz.out; rw [cell_of_heap hc2, hcur2 j (by omega), List.getElem?_append_left (by omega)]
      · have hz0 : 0 < size - zs.length := by omega
        have hls' : (zs.length : Int) < (size : Int) := by omega
        go_enter Tryz.func78, Tryz.ntmps78
        go_wp2_with fail
        refine hg.mono ?_
        rintro e w1 ⟨G, hG, rfl, hw1⟩
        have hN : w1.heap[w.heap.size]? = some (.cells (Array.replicate G (.int .u64 0)) 71 (0, 0)) := by rw [hw1]; exact World.alloc_heap_new w.drew _
        have hb1 : Below w.heap.size w w1 := by rw [hw1]; exact (Below.refl _ w).drew.alloc (Nat.le_refl _) _
        obtain ⟨w2, cur2, hap, hc2, hs2, hcur2, hb2⟩ := append_room h (Nat.le_trans hl hG) hb1 (Nat.le_refl _) _ hN (by simp)
        have hGz : ¬ G = zs.length := by omega
        have hcl := fun ty => Lib.run_clear_slice (P := Tryz.prog) w2 27 71 ty (.int .u64 0) Tryz.underlying27 zeroU64 rfl rfl w.heap.size zs.length (size - zs.length) (G - zs.length) hz0
          (fun j hj => by rw [cell_of_heap hc2]; simp; omega) (fun j hj => frozen_of_heap hc2 _)
        clear hw1 hg
        go_wp2_with (at_builtin; refine Lib.wpList_append_run _ rfl _ _ _ _ rfl _ _ rfl rfl _ _ (hap _) ?_)
        go_ret
        refine ⟨G, hG, rfl, ?_, fun j hj => ?_, fun j => ?_, below_setCells (Nat.le_refl _) _ _ _ hb2⟩
        · rw [size_setCells]; exact (Array.getElem?_eq_some_iff.1 hc2).1
        · by_cases hj2 : j < zs.length
          · rw [World.cell?_setCells_out _ _ _ _ _ (fun _ _ => .inl hj2), cell_of_heap hc2, hcur2 j hj2, List.getElem?_append_left hj2]
          · obtain ⟨k, rfl⟩ : ∃ k, j = zs.length + k := ⟨j - zs.length, by omega⟩
            rw [World.cell?_setCells_in _ _ _ _ (fun i hi => by rw [cell_of_heap hc2]; simp at hi; simp; omega) k (by simp; omega), List.getElem?_append_right (by omega), Nat.add_sub_cancel_left, List.getElem?_replicate_of_lt (by omega)]
            simp
        · rw [World.frozen?_setCells]; exact frozen_of_heap hc2 j
    · rintro e w' ⟨G, hG, rfl, hsz, hcur, hfr, hb⟩
      have hlen : (zs ++ List.replicate (size - zs.length) 0).length = size := by simp; omega
      refine ⟨_, _, rfl, ⟨hw.append (Words.zeros _), _, _, by rw [hlen], by omega, fun _ => ⟨_, 0, rfl, Nat.le_refl _, hsz, fun j hj => ?_, fun j hj => ?_⟩⟩, hb⟩
      · rw [Nat.zero_add]; exact hcur j (by omega)
      · rw [Nat.zero_add]; exact hfr j
def Own (lo : Nat) (W : World) (v : Value) (zs : List Int) : Prop := W.ownsRow lo 71 1 v zs.length (zs.map (Value.int .u64)) ∧ Words zs
theorem own_seg {lo : Nat} {W : World} {v : Value} {zs : List Int} (h : Own lo W v zs) : ∃ a cap, v = .slice a zs.length cap ∧ Seg lo W (.slice a zs.length cap) zs := by
  obtain ⟨⟨h1, h2⟩, hw⟩ := h
  rcases h2 with ⟨rfl, h0⟩ | ⟨g, cap, cur, rfl, hg, hh, hc, hm, hs, ht⟩
  · obtain rfl : zs = [] := List.length_eq_zero_iff.1 h0
    exact ⟨none, 0, rfl, Seg.nil _ _⟩
  · have hsz : g < W.heap.size := (Array.getElem?_eq_some_iff.1 hh).1
    refine ⟨_, _, rfl, hw, _, _, rfl, hc, fun _ => ⟨g, 0, rfl, hg, hsz, fun j hj => ?_, fun j _ => frozen_of_heap hh _⟩⟩
    rw [cell_of_heap hh, Nat.zero_add]
    have e : (cur.toList.take (zs.length * 1))[j]? = (zs.map (Value.int .u64))[j]? := by rw [ht]
    rw [List.getElem?_take_of_lt (by omega), Array.getElem?_toList] at e
    rw [e]
    simp [hj]
theorem own_append {lo : Nat} {w : World} {v : Value} {zs : List Int} (h : Own lo w v zs) (x : Int) (hx : 0 ≤ x ∧ x < 18446744073709551616) (hl : zs.length ≤ 1000000) (hlo : lo ≤ w.heap.size) :
    ∃ a' cap' w', (Builtin.append_ #[27, 27] 27 #[v, .slice (some ⟨w.heap.size, 0, none⟩) 1 1]).run Tryz.prog (w.alloc (.cells #[.int .u64 x] 71)) = .ok (.slice a' (zs.length + 1) cap') w' ∧ Own lo w' (.slice a' (zs.length + 1) cap') (zs ++ [x]) ∧ Below lo w w' := by
  obtain ⟨i0, hi, hz0, hz1, hz2⟩ := info_parts infoU64
  have hb : Below lo w (w.alloc (.cells #[.int .u64 x] 71)) := (Below.refl _ _).alloc hlo _
  obtain ⟨v', w', hr, hown, hg, _⟩ := run_append_own (P := Tryz.prog) (w.alloc (.cells #[.int .u64 x] 71)) lo 27 27 71 i0 (.int .u64 0) 1 8 Tryz.underlying27 hi hz0 hz1 hz2 rfl (by decide)
    v zs.length (zs.map (Value.int .u64)) (h.1.alloc _) ⟨w.heap.size, 0, none⟩ 1 1 [.int .u64 x] rfl
    (fun j u hj => by
      obtain rfl : j = 0 := by
        cases j with
        | zero => rfl
        | succ j => simp at hj
      obtain rfl : Value.int .u64 x = u := by simpa using hj
      rw [Addr.add_lit]
      exact cell_of_heap (World.alloc_heap_new w _) 0)
    (fun u hu => by obtain rfl : u = .int .u64 x := by simpa using hu
                    rfl) (by unfold maxLen; omega) (by omega) (by simp; omega)
  have hlen : (zs ++ [x]).length = zs.length + 1 := by simp
  have ho : Own lo w' v' (zs ++ [x]) := by
    refine ⟨?_, h.2.append (Words.cons hx Words.nil)⟩
    rw [hlen, List.map_append]
    exact hown
  have hbw : Below lo w w' := hb.grown hg (by simp; omega) (fun k hk => (h.1.lt k hk).1)
  obtain ⟨a', cap', e, _⟩ := own_seg ho
  rw [hlen] at e
  subst e
  exact ⟨a', cap', w', hr, ho, hbw⟩
theorem Seg.above {lo : Nat} {W W' : World} {sv : Value} {zs : List Int} (h : Seg lo W sv zs) (hk : ∀ k, lo ≤ k → W'.heap[k]? = W.heap[k]?) (hs : W.heap.size ≤ W'.heap.size) : Seg lo W' sv zs := by
  obtain ⟨hw, a, cap, e, h1, h3⟩ := h
  refine ⟨hw, a, cap, e, h1, fun hz => ?_⟩
  obtain ⟨b, off, e1, e2, e3, e4, e5⟩ := h3 hz
  exact ⟨b, off, e1, e2, by omega, fun j hj => (World.cell?_of_block (a := ⟨b, off + j, none⟩) (hk b e2)).trans (e4 j hj), fun j hj => (World.frozen?_of_block (a := ⟨b, off + j, none⟩) (hk b e2)).trans (e5 j hj)⟩
theorem Seg.block {lo : Nat} {W : World} {a : Option Addr} {n cap : Nat} {zs : List Int} (h : Seg lo W (.slice a n cap) zs) : zs ≠ [] → ∀ b o, a = some ⟨b, o, none⟩ → b < W.heap.size := fun hz b o e => by
  obtain ⟨hl, _⟩ := h.len
  obtain ⟨b', o', e1, _, e3⟩ := h.row (by rw [hl]; exact List.length_pos_iff.2 hz)
  rw [e] at e1
  simp only [Option.some.injEq, Addr.mk.injEq] at e1
  omega
structure Turns (b : Nat) (W W' : World) : Prop where
  below : Below b W W'
  other : ∀ k, k ≠ b → k < W.heap.size → W'.heap[k]? = W.heap[k]?
theorem Turns.refl (b : Nat) (W : World) : Turns b W W := ⟨Below.refl _ _, fun _ _ _ => rfl⟩
theorem Turns.trans {b : Nat} {A B C : World} (h : Turns b A B) (k : Turns b B C) : Turns b A C := ⟨h.below.trans k.below, fun i hi hl => (k.other i hi (Nat.lt_of_lt_of_le hl h.below.size)).trans (h.other i hi hl)⟩
theorem Turns.of_below {b : Nat} {A B : World} (hb : b ≤ A.heap.size) (h : Below A.heap.size A B) : Turns b A B := ⟨h.mono hb, fun k _ hl => h.block k hl⟩
theorem Turns.setCell {b : Nat} {A B : World} (h : Turns b A B) (o : Nat) (v : Value) : Turns b A (B.setCell ⟨b, o, none⟩ v) :=
  ⟨h.below.setCell (p := ⟨b, o, none⟩) (Nat.le_refl _) v, fun k hk hl => (Below.heap_setCell _ _ _ _ (by show k ≠ b; exact hk)).trans (h.other k hk hl)⟩
theorem Turns.drew {b : Nat} {A B : World} (h : Turns b A B) : Turns b A B.drew := ⟨h.below.drew, h.other⟩
theorem Seg.turns {lo b g o len cap : Nat} {A B : World} {zs : List Int} (h : Seg lo A (.slice (some ⟨g, o, none⟩) len cap) zs) (ht : Turns b A B) (hg : g ≠ b) : Seg lo B (.slice (some ⟨g, o, none⟩) len cap) zs := by
  obtain ⟨hw, a', cap', e, h1, h3⟩ := h
  refine ⟨hw, a', cap', e, h1, fun hz => ?_⟩
  obtain ⟨b', off', e1, e2, e3, e4, e5⟩ := h3 hz
  simp only [Value.slice.injEq] at e
  obtain ⟨ea, _, _⟩ := e
  rw [e1] at ea
  simp only [Option.some.injEq, Addr.mk.injEq] at ea
  obtain ⟨rfl, rfl, _⟩ := ea
  have hk := ht.other g hg e3
  exact ⟨g, o, e1, e2, Nat.lt_of_lt_of_le e3 ht.below.size, fun j hj => (World.cell?_of_block (a := ⟨g, o + j, none⟩) hk).trans (e4 j hj), fun j hj => (World.frozen?_of_block (a := ⟨g, o + j, none⟩) hk).trans (e5 j hj)⟩
theorem Seg.turns_lo {lo b : Nat} {A B : World} {sv : Value} {zs : List Int} (h : Seg lo A sv zs) (ht : Turns b A B) (hg : b < lo) : Seg lo B sv zs := by
  obtain ⟨hw, a', cap', e, h1, h3⟩ := h
  refine ⟨hw, a', cap', e, h1, fun hz => ?_⟩
  obtain ⟨g, o, e1, e2, e3, e4, e5⟩ := h3 hz
  have hk := ht.other g (by omega) e3
  exact ⟨g, o, e1, e2, Nat.lt_of_lt_of_le e3 ht.below.size, fun j hj => (World.cell?_of_block (a := ⟨g, o + j, none⟩) hk).trans (e4 j hj), fun j hj => (World.frozen?_of_block (a := ⟨g, o + j, none⟩) hk).trans (e5 j hj)⟩
theorem turns2 (g : Nat) (W : World) (u v : Value) : Turns g W ((W.setCell ⟨g, 0, none⟩ u).setCell ⟨g, 1, none⟩ v) := ((Turns.refl g W).setCell 0 u).setCell 1 v
def Nums (zs : List Int) : Prop := ∀ z ∈ zs, -9223372036854775808 ≤ z ∧ z < 9223372036854775808
theorem Nums.nil : Nums [] := fun _ h => by cases h
theorem Nums.cons {z : Int} {zs : List Int} (h : -9223372036854775808 ≤ z ∧ z < 9223372036854775808) (hs : Nums zs) : Nums (z :: zs) := fun y hy => by
  rcases List.mem_cons.1 hy with rfl | hy
  · exact h
  · exact hs y hy
theorem Nums.tail {z : Int} {zs : List Int} (h : Nums (z :: zs)) : Nums zs := fun y hy => h y (List.mem_cons_of_mem _ hy)
theorem Nums.head {z : Int} {zs : List Int} (h : Nums (z :: zs)) : -9223372036854775808 ≤ z ∧ z < 9223372036854775808 := h z List.mem_cons_self
theorem Nums.append {xs ys : List Int} (hx : Nums xs) (hy : Nums ys) : Nums (xs ++ ys) := fun z hz => (List.mem_append.1 hz).elim (hx z) (hy z)
theorem Nums.take {zs : List Int} (h : Nums zs) (k : Nat) : Nums (zs.take k) := fun z hz => h z (List.mem_of_mem_take hz)
theorem Nums.drop {zs : List Int} (h : Nums zs) (k : Nat) : Nums (zs.drop k) := fun z hz => h z (List.mem_of_mem_drop hz)
theorem Nums.getD {zs : List Int} (h : Nums zs) (k : Nat) : -9223372036854775808 ≤ zs[k]?.getD 0 ∧ zs[k]?.getD 0 < 9223372036854775808 := by
  by_cases hk : k < zs.length
  · rw [List.getElem?_eq_getElem hk]; exact h _ (List.getElem_mem hk)
  · rw [List.getElem?_eq_none (by omega)]; decide
theorem Nums.zeros (n : Nat) : Nums (List.replicate n 0) := fun z hz => by rw [(List.mem_replicate.1 hz).2]; decide
theorem Nums.set {zs : List Int} (h : Nums zs) (k : Nat) {x : Int} (hx : -9223372036854775808 ≤ x ∧ x < 9223372036854775808) : Nums (zs.set k x) := fun z hz => by
  rcases List.mem_or_eq_of_mem_set hz with hz | rfl
  · exact h z hz
  · exact hx
def Intz (lo : Nat) (W : World) (sv : Value) (zs : List Int) : Prop :=
  Nums zs ∧ ∃ a cap, sv = .slice a zs.length cap ∧ zs.length ≤ cap ∧
    (zs ≠ [] → ∃ b off, a = some ⟨b, off, none⟩ ∧ lo ≤ b ∧ b < W.heap.size ∧ (∀ j, j < zs.length → W.cell? ⟨b, off + j, none⟩ = some (.int .i64 (zs[j]?.getD 0))) ∧ (∀ j, j < zs.length → W.frozen? ⟨b, off + j, none⟩ = false))
theorem Intz.words {lo : Nat} {W : World} {sv : Value} {zs : List Int} (h : Intz lo W sv zs) : Nums zs := h.1
theorem Intz.below {lo : Nat} {W W' : World} {sv : Value} {zs : List Int} (h : Intz lo W sv zs) (hb : Below W.heap.size W W') : Intz lo W' sv zs := by
  obtain ⟨hw, a, cap, e, h1, h3⟩ := h
  refine ⟨hw, a, cap, e, h1, fun hz => ?_⟩
  obtain ⟨b, off, e1, e2, e3, e4, e5⟩ := h3 hz
  exact ⟨b, off, e1, e2, Nat.lt_of_lt_of_le e3 hb.size, fun j hj => (hb.cell (p := ⟨b, off + j, none⟩) e3).trans (e4 j hj), fun j hj => (hb.frozen (p := ⟨b, off + j, none⟩) e3).trans (e5 j hj)⟩
theorem Intz.mono {lo lo' : Nat} {W : World} {sv : Value} {zs : List Int} (h : Intz lo W sv zs) (hl : lo' ≤ lo) : Intz lo' W sv zs := by
  obtain ⟨hw, a, cap, e, h1, h3⟩ := h
  refine ⟨hw, a, cap, e, h1, fun hz => ?_⟩
  obtain ⟨b, off, e1, e2, r⟩ := h3 hz
  exact ⟨b, off, e1, Nat.le_trans hl e2, r⟩
theorem Intz.nil (lo : Nat) (W : World) : Intz lo W (.slice none 0 0) [] := ⟨Nums.nil, none, 0, rfl, Nat.le_refl _, fun h => absurd rfl h⟩
theorem Intz.empty (lo : Nat) (W : World) (a : Option Addr) (cap : Nat) : Intz lo W (.slice a 0 cap) [] := ⟨Nums.nil, a, cap, rfl, Nat.zero_le _, fun h => absurd rfl h⟩
theorem Intz.take {lo : Nat} {W : World} {a : Option Addr} {len cap : Nat} {zs : List Int} (h : Intz lo W (.slice a len cap) zs) {k : Nat} (hk : k ≤ zs.length) : Intz lo W (.slice a k cap) (zs.take k) := by
  obtain ⟨hw, a', cap', e, h1, h3⟩ := h
  simp only [Value.slice.injEq] at e
  obtain ⟨rfl, rfl, rfl⟩ := e
  refine ⟨hw.take k, a, cap, by rw [List.length_take, Nat.min_eq_left hk], by rw [List.length_take]; omega, fun hz => ?_⟩
  obtain ⟨b, off, e1, e2, e3, e4, e5⟩ := h3 (by intro e; apply hz; rw [e]; simp)
  refine ⟨b, off, e1, e2, e3, fun j hj => ?_, fun j hj => e5 j (by rw [List.length_take] at hj; omega)⟩
  rw [List.length_take] at hj
  rw [e4 j (by omega), List.getElem?_take_of_lt (by omega)]
theorem Intz.set {lo : Nat} {W : World} {b off len cap : Nat} {zs : List Int} (h : Intz lo W (.slice (some ⟨b, off, none⟩) len cap) zs) {k : Nat} (hk : k < zs.length) {x : Int} (hx : -9223372036854775808 ≤ x ∧ x < 9223372036854775808) :
    Intz lo (W.setCell ⟨b, off + k, none⟩ (.int .i64 x)) (.slice (some ⟨b, off, none⟩) len cap) (zs.set k x) := by
  obtain ⟨hw, a', cap', e, h1, h3⟩ := h
  simp only [Value.slice.injEq] at e
  obtain ⟨rfl, rfl, rfl⟩ := e
  obtain ⟨b', off', e1, e2, e3, e4, e5⟩ := h3 (by intro e; rw [e] at hk; simp at hk)
  simp only [Option.some.injEq, Addr.mk.injEq] at e1
  obtain ⟨rfl, rfl, _⟩ := e1
  refine ⟨hw.set k hx, _, _, by rw [List.length_set], by rw [List.length_set]; exact h1, fun _ => ⟨b, off, rfl, e2, by simpa [World.setCell] using e3, fun j hj => ?_, fun j hj => ?_⟩⟩
  · rw [List.length_set] at hj
    by_cases e : j = k
    · subst e
      rw [World.cell?_setCell_same' _ _ _ (by rw [e4 j hj]; rfl), List.getElem?_set_self hj]; rfl
    · rw [World.cell?_setCell_other W ⟨b, off + k, none⟩ ⟨b, off + j, none⟩ _ (by intro h; injection h with h1 h2; omega), e4 j hj, List.getElem?_set_ne (by omega)]
  · rw [List.length_set] at hj
    rw [World.frozen?_setCell]; exact e5 j hj
theorem Intz.row {lo : Nat} {W : World} {a : Option Addr} {len cap : Nat} {zs : List Int} (h : Intz lo W (.slice a len cap) zs) (h0 : 0 < len) : ∃ b off, a = some ⟨b, off, none⟩ ∧ lo ≤ b ∧ b < W.heap.size := by
  obtain ⟨hw, a', cap', e, h1, h3⟩ := h
  simp only [Value.slice.injEq] at e
  obtain ⟨rfl, rfl, rfl⟩ := e
  obtain ⟨b, off, e1, e2, e3, _, _⟩ := h3 (List.length_pos_iff.1 h0)
  exact ⟨b, off, e1, e2, e3⟩
theorem Intz.cell {lo : Nat} {W : World} {b off len cap : Nat} {zs : List Int} (h : Intz lo W (.slice (some ⟨b, off, none⟩) len cap) zs) {j : Nat} (hj : j < len) : W.cell? ⟨b, off + j, none⟩ = some (.int .i64 (zs[j]?.getD 0)) ∧ W.frozen? ⟨b, off + j, none⟩ = false := by
  obtain ⟨hw, a', cap', e, h1, h3⟩ := h
  simp only [Value.slice.injEq] at e
  obtain ⟨rfl, rfl, rfl⟩ := e
  obtain ⟨b', off', e1, e2, e3, e4, e5⟩ := h3 (by intro e; rw [e] at hj; simp at hj)
  simp only [Option.some.injEq, Addr.mk.injEq] at e1
  obtain ⟨rfl, rfl, _⟩ := e1
  exact ⟨e4 j hj, e5 j hj⟩
theorem Intz.len {lo : Nat} {W : World} {a : Option Addr} {len cap : Nat} {zs : List Int} (h : Intz lo W (.slice a len cap) zs) : len = zs.length ∧ len ≤ cap := by
  obtain ⟨hw, a', cap', e, h1, h3⟩ := h
  simp only [Value.slice.injEq] at e
  obtain ⟨rfl, rfl, rfl⟩ := e
  exact ⟨rfl, h1⟩
theorem Intz.drew {lo : Nat} {W : World} {sv : Value} {zs : List Int} (h : Intz lo W sv zs) : Intz lo W.drew sv zs := h
theorem infoI64 : (Tryz.prog.info? 3).map (fun i => (i.zero, i.size, i.bytes)) = some (some (.int .i64 0), 1, 8) := by kernel_rfl
def OwnI (lo : Nat) (W : World) (v : Value) (zs : List Int) : Prop := W.ownsRow lo 3 1 v zs.length (zs.map (Value.int .i64)) ∧ Nums zs
theorem Intz.above {lo : Nat} {W W' : World} {sv : Value} {zs : List Int} (h : Intz lo W sv zs) (hk : ∀ k, lo ≤ k → W'.heap[k]? = W.heap[k]?) (hs : W.heap.size ≤ W'.heap.size) : Intz lo W' sv zs := by
  obtain ⟨hw, a, cap, e, h1, h3⟩ := h
  refine ⟨hw, a, cap, e, h1, fun hz => ?_⟩
  obtain ⟨b, off, e1, e2, e3, e4, e5⟩ := h3 hz
  exact ⟨b, off, e1, e2, by omega, fun j hj => (World.cell?_of_block (a := ⟨b, off + j, none⟩) (hk b e2)).trans (e4 j hj), fun j hj => (World.frozen?_of_block (a := ⟨b, off + j, none⟩) (hk b e2)).trans (e5 j hj)⟩
theorem Intz.block {lo : Nat} {W : World} {a : Option Addr} {n cap : Nat} {zs : List Int} (h : Intz lo W (.slice a n cap) zs) : zs ≠ [] → ∀ b o, a = some ⟨b, o, none⟩ → b < W.heap.size := fun hz b o e => by
  obtain ⟨hl, _⟩ := h.len
  obtain ⟨b', o', e1, _, e3⟩ := h.row (by rw [hl]; exact List.length_pos_iff.2 hz)
  rw [e] at e1
  simp only [Option.some.injEq, Addr.mk.injEq] at e1
  omega
theorem Intz.drop {lo : Nat} {W : World} {b off len cap : Nat} {zs : List Int} (h : Intz lo W (.slice (some ⟨b, off, none⟩) len cap) zs) (k : Nat) (hk : k ≤ len) : Intz lo W (.slice (some ⟨b, off + k, none⟩) (len - k) (cap - k)) (zs.drop k) := by
  obtain ⟨hw, a', cap', e, h1, h3⟩ := h
  simp only [Value.slice.injEq] at e
  obtain ⟨rfl, rfl, rfl⟩ := e
  have hl : (zs.drop k).length = zs.length - k := List.length_drop
  refine ⟨hw.drop k, _, _, by rw [hl], by rw [hl]; omega, fun hz => ?_⟩
  have hp : 0 < zs.length - k := by rw [← hl]; exact List.length_pos_iff.2 hz
  obtain ⟨b', off', e1, e2, e3, e4, e5⟩ := h3 (List.length_pos_iff.1 (by omega))
  simp only [Option.some.injEq, Addr.mk.injEq] at e1
  obtain ⟨rfl, rfl, _⟩ := e1
  refine ⟨b, off + k, rfl, e2, e3, fun j hj => ?_, fun j hj => ?_⟩
  · rw [hl] at hj
    rw [Nat.add_assoc, e4 (k + j) (by omega), List.getElem?_drop]
  · rw [hl] at hj
    rw [Nat.add_assoc]; exact e5 (k + j) (by omega)
end Go.Proofs.YtejocefblpkdjabGreat
