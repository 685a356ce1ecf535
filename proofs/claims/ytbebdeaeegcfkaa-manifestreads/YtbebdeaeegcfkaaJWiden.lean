/-
  Joined: Widen Own Byt OModel PMath MMath Intz XNum Turns XMem XEight BytW CMath CSeal.
-/
import Derived.Test.YtbebdeaeegcfkaaSeg
import Derived.Lib.AppendZerosOnto
import Derived.Lib.SliceRun
import Derived.Laws.IdiomCopy
import Derived.Laws.CopyOwn
import Derived.RangeFuncRecord
import Derived.OwnWalk
import Derived.Laws.BytesArg
import Derived.KernelRfl
import Derived.Laws.Bits64
import Derived.Laws.BitsAllLaws
import Derived.Deep.RegionLaw
namespace Go.Proofs.Ytbebdeaeegcfkaa
open Go.RowKit
theorem cell_of_heap {w : World} {g : Nat} {cur : Array Value} {t : TypeId} {fr : Nat × Nat} (h : w.heap[g]? = some (.cells cur t fr)) (j : Nat) : w.cell? ⟨g, j, none⟩ = cur[j]? := by
  simp [World.cell?, h]
theorem frozen_of_heap {w : World} {g : Nat} {cur : Array Value} {t : TypeId} (h : w.heap[g]? = some (.cells cur t (0, 0))) (j : Nat) : w.frozen? ⟨g, j, none⟩ = false := by
  simp [World.frozen?, h]
def Own (lo : Nat) (W : World) (v : Value) (zs : List Int) : Prop := W.ownsRow lo 92 1 v zs.length (zs.map (Value.int .u64)) ∧ Words zs
theorem Seg.above {lo : Nat} {W W' : World} {sv : Value} {zs : List Int} (h : Seg lo W sv zs) (hk : ∀ k, lo ≤ k → W'.heap[k]? = W.heap[k]?) (hs : W.heap.size ≤ W'.heap.size) : Seg lo W' sv zs := by
  obtain ⟨hw, a, cap, e, h1, h3⟩ := h
  refine ⟨hw, a, cap, e, h1, fun hz => ?_⟩
  obtain ⟨b, off, e1, e2, e3, e4, e5⟩ := h3 hz
  exact ⟨b, off, e1, e2, by omega, fun j hj => (World.cell?_of_block (a := ⟨b, off + j, none⟩) (hk b e2)).trans (e4 j hj), fun j hj => (World.frozen?_of_block (a := ⟨b, off + j, none⟩) (hk b e2)).trans (e5 j hj)⟩
theorem Seg.block {lo : Nat} {W : World} {a : Option Addr} {n cap : Nat} {zs : List Int} (h : Seg lo W (.slice a n cap) zs) : zs ≠ [] → ∀ b o, a = some ⟨b, o, none⟩ → b < W.heap.size := fun hz b o e => by
  obtain ⟨hl, _⟩ := h.len
  obtain ⟨b', o', e1, _, e3⟩ := h.row (by rw [hl]; exact List.length_pos_iff.2 hz)
  rw [e] at e1
  simp only [Option.some.injEq, Addr.mk.injEq] at e1
  omega
def Octs (zs : List Int) : Prop := ∀ z ∈ zs, 0 ≤ z ∧ z < 256
theorem Octs.nil : Octs [] := fun _ h => by cases h
theorem Octs.cons {z : Int} {zs : List Int} (h : 0 ≤ z ∧ z < 256) (hs : Octs zs) : Octs (z :: zs) := fun y hy => by
  rcases List.mem_cons.1 hy with rfl | hy
  · exact h
  · exact hs y hy
theorem Octs.tail {z : Int} {zs : List Int} (h : Octs (z :: zs)) : Octs zs := fun y hy => h y (List.mem_cons_of_mem _ hy)
theorem Octs.head {z : Int} {zs : List Int} (h : Octs (z :: zs)) : 0 ≤ z ∧ z < 256 := h z List.mem_cons_self
theorem Octs.append {xs ys : List Int} (hx : Octs xs) (hy : Octs ys) : Octs (xs ++ ys) := fun z hz => (List.mem_append.1 hz).elim (hx z) (hy z)
theorem Octs.take {zs : List Int} (h : Octs zs) (k : Nat) : Octs (zs.take k) := fun z hz => h z (List.mem_of_mem_take hz)
theorem Octs.drop {zs : List Int} (h : Octs zs) (k : Nat) : Octs (zs.drop k) := fun z hz => h z (List.mem_of_mem_drop hz)
theorem Octs.getD {zs : List Int} (h : Octs zs) (k : Nat) : 0 ≤ zs[k]?.getD 0 ∧ zs[k]?.getD 0 < 256 := by
  by_cases hk : k < zs.length
  · rw [List.getElem?_eq_getElem hk]; exact h _ (List.getElem_mem hk)
  · rw [List.getElem?_eq_none (by omega)]; decide
theorem Octs.set {zs : List Int} (h : Octs zs) (k : Nat) {x : Int} (hx : 0 ≤ x ∧ x < 256) : Octs (zs.set k x) := fun z hz => by
  rcases List.mem_or_eq_of_mem_set hz with hz | rfl
  · exact h z hz
  · exact hx
def Byt (lo : Nat) (W : World) (sv : Value) (zs : List Int) : Prop :=
  Octs zs ∧ ∃ a cap, sv = .slice a zs.length cap ∧ zs.length ≤ cap ∧
    (zs ≠ [] → ∃ b off, a = some ⟨b, off, none⟩ ∧ lo ≤ b ∧ b < W.heap.size ∧ (∀ j, j < zs.length → W.cell? ⟨b, off + j, none⟩ = some (.int .u8 (zs[j]?.getD 0))) ∧ (∀ j, j < zs.length → W.frozen? ⟨b, off + j, none⟩ = false))
theorem Byt.words {lo : Nat} {W : World} {sv : Value} {zs : List Int} (h : Byt lo W sv zs) : Octs zs := h.1
theorem Byt.below {lo : Nat} {W W' : World} {sv : Value} {zs : List Int} (h : Byt lo W sv zs) (hb : Below W.heap.size W W') : Byt lo W' sv zs := by
  obtain ⟨hw, a, cap, e, h1, h3⟩ := h
  refine ⟨hw, a, cap, e, h1, fun hz => ?_⟩
  obtain ⟨b, off, e1, e2, e3, e4, e5⟩ := h3 hz
  exact ⟨b, off, e1, e2, Nat.lt_of_lt_of_le e3 hb.size, fun j hj => (hb.cell (p := ⟨b, off + j, none⟩) e3).trans (e4 j hj), fun j hj => (hb.frozen (p := ⟨b, off + j, none⟩) e3).trans (e5 j hj)⟩
theorem Byt.mono {lo lo' : Nat} {W : World} {sv : Value} {zs : List Int} (h : Byt lo W sv zs) (hl : lo' ≤ lo) : Byt lo' W sv zs := by
  obtain ⟨hw, a, cap, e, h1, h3⟩ := h
  refine ⟨hw, a, cap, e, h1, fun hz => ?_⟩
  obtain ⟨b, off, e1, e2, r⟩ := h3 hz
  exact ⟨b, off, e1, Nat.le_trans hl e2, r⟩
theorem Byt.nil (lo : Nat) (W : World) : Byt lo W (.slice none 0 0) [] := ⟨Octs.nil, none, 0, rfl, Nat.le_refl _, fun h => absurd rfl h⟩
theorem Byt.empty (lo : Nat) (W : World) (a : Option Addr) (cap : Nat) : Byt lo W (.slice a 0 cap) [] := ⟨Octs.nil, a, cap, rfl, Nat.zero_le _, fun h => absurd rfl h⟩
theorem Byt.take {lo : Nat} {W : World} {a : Option Addr} {len cap : Nat} {zs : List Int} (h : Byt lo W (.slice a len cap) zs) {k : Nat} (hk : k ≤ zs.length) : Byt lo W (.slice a k cap) (zs.take k) := by
  obtain ⟨hw, a', cap', e, h1, h3⟩ := h
  simp only [Value.slice.injEq] at e
  obtain ⟨rfl, rfl, rfl⟩ := e
  refine ⟨hw.take k, a, cap, by rw [List.length_take, Nat.min_eq_left hk], by rw [List.length_take]; omega, fun hz => ?_⟩
  obtain ⟨b, off, e1, e2, e3, e4, e5⟩ := h3 (by intro e; apply hz; rw [e]; simp)
  refine ⟨b, off, e1, e2, e3, fun j hj => ?_, fun j hj => e5 j (by rw [List.length_take] at hj; omega)⟩
  rw [List.length_take] at hj
  rw [e4 j (by omega), List.getElem?_take_of_lt (by omega)]
theorem Byt.set {lo : Nat} {W : World} {b off len cap : Nat} {zs : List Int} (h : Byt lo W (.slice (some ⟨b, off, none⟩) len cap) zs) {k : Nat} (hk : k < zs.length) {x : Int} (hx : 0 ≤ x ∧ x < 256) :
    Byt lo (W.setCell ⟨b, off + k, none⟩ (.int .u8 x)) (.slice (some ⟨b, off, none⟩) len cap) (zs.set k x) := by
  obtain ⟨hw, a', cap', e, h1, h3⟩ := h
  simp only [Value.slice.injEq] at e
  obtain ⟨rfl, rfl, rfl⟩ := e
  obtain ⟨b', off', e1, e2, e3, e4, e5⟩ := h3 (by intro e; rw [e] at hk; simp at hk)
  simp only [Option.some.injEq, Addr.mk.injEq] at e1
  obtain ⟨rfl, rfl, _⟩ := e1
  refine ⟨hw.set k hx, _, _, by rw [List.length_set], by rw [List.length_set]; exact h1, fun _ => ⟨b, off, rfl, e2, by simpa [World.setCell] using e3, fun j hj => ?_, fun j hj => ?_⟩⟩
  · rw [List.length_set] at hj
    by_cases e : j = k
    · subst e
      rw [World.cell?_setCell_same' _ _ _ (by rw [e4 j hj]; rfl), List.getElem?_set_self hj]; rfl
    · rw [World.cell?_setCell_other W ⟨b, off + k, none⟩ ⟨b, off + j, none⟩ _ (by intro h; injection h with h1 h2; omega), e4 j hj, List.getElem?_set_ne (by omega)]
  · rw [List.length_set] at hj
    rw [World.frozen?_setCell]; exact e5 j hj
theorem Byt.row {lo : Nat} {W : World} {a : Option Addr} {len cap : Nat} {zs : List Int} (h : Byt lo W (.slice a len cap) zs) (h0 : 0 < len) : ∃ b off, a = some ⟨b, off, none⟩ ∧ lo ≤ b ∧ b < W.heap.size := by
  obtain ⟨hw, a', cap', e, h1, h3⟩ := h
  simp only [Value.slice.injEq] at e
  obtain ⟨rfl, rfl, rfl⟩ := e
  obtain ⟨b, off, e1, e2, e3, _, _⟩ := h3 (List.length_pos_iff.1 h0)
  exact ⟨b, off, e1, e2, e3⟩
theorem Byt.cell {lo : Nat} {W : World} {b off len cap : Nat} {zs : List Int} (h : Byt lo W (.slice (some ⟨b, off, none⟩) len cap) zs) {j : Nat} (hj : j < len) : W.cell? ⟨b, off + j, none⟩ = some (.int .u8 (zs[j]?.getD 0)) ∧ W.frozen? ⟨b, off + j, none⟩ = false := by
  obtain ⟨hw, a', cap', e, h1, h3⟩ := h
  simp only [Value.slice.injEq] at e
  obtain ⟨rfl, rfl, rfl⟩ := e
  obtain ⟨b', off', e1, e2, e3, e4, e5⟩ := h3 (by intro e; rw [e] at hj; simp at hj)
  simp only [Option.some.injEq, Addr.mk.injEq] at e1
  obtain ⟨rfl, rfl, _⟩ := e1
  exact ⟨e4 j hj, e5 j hj⟩
theorem Byt.len {lo : Nat} {W : World} {a : Option Addr} {len cap : Nat} {zs : List Int} (h : Byt lo W (.slice a len cap) zs) : len = zs.length ∧ len ≤ cap := by
  obtain ⟨hw, a', cap', e, h1, h3⟩ := h
  simp only [Value.slice.injEq] at e
  obtain ⟨rfl, rfl, rfl⟩ := e
  exact ⟨rfl, h1⟩
theorem Byt.drew {lo : Nat} {W : World} {sv : Value} {zs : List Int} (h : Byt lo W sv zs) : Byt lo W.drew sv zs := h
theorem infoU8 : (Try.prog.info? 5).map (fun i => (i.zero, i.size, i.bytes)) = some (some (.int .u8 0), 1, 1) := by kernel_rfl
theorem appendb_none (s : Option Addr) (k G : Nat) (hk : k ≤ G) (a : Option Addr) (cap : Nat) (w : World) (ty : TypeId) : (Builtin.append_ #[28, 28] ty #[.slice s k G, .slice a 0 cap]).run Try.prog w = .ok (.slice s k G) w := by
  obtain ⟨i0, hi, hz0, hz1, hz2⟩ := info_parts infoU8
  have hf : (Builtin.firstCells i0.size 0 (.slice a 0 cap)).run Try.prog w = .ok #[] w := by
    cases a with
    | none => exact run_firstCells_none w i0.size 0 0 cap
    | some a => exact run_firstCells_some w i0.size 0 a 0 cap [] (by simp) (by simp)
  cases s <;> simp [Builtin.append_, run_underlying Try.underlying28, sizeOf, typeInfo, hi, Builtin.lenOf, hf, hk, storeCells]
def OwnB (lo : Nat) (W : World) (v : Value) (zs : List Int) : Prop := W.ownsRow lo 5 1 v zs.length (zs.map (Value.int .u8)) ∧ Octs zs
theorem ownb_nil (lo : Nat) (W : World) : OwnB lo W (.slice none 0 0) [] := ⟨World.ownsRow_nil W lo _ _, Octs.nil⟩
theorem ownb_seg {lo : Nat} {W : World} {v : Value} {zs : List Int} (h : OwnB lo W v zs) : ∃ a cap, v = .slice a zs.length cap ∧ Byt lo W (.slice a zs.length cap) zs := by
  obtain ⟨⟨h1, h2⟩, hw⟩ := h
  rcases h2 with ⟨rfl, h0⟩ | ⟨g, cap, cur, rfl, hg, hh, hc, hm, hs, ht⟩
  · obtain rfl : zs = [] := List.length_eq_zero_iff.1 h0
    exact ⟨none, 0, rfl, Byt.nil _ _⟩
  · have hsz : g < W.heap.size := (Array.getElem?_eq_some_iff.1 hh).1
    refine ⟨_, _, rfl, hw, _, _, rfl, hc, fun _ => ⟨g, 0, rfl, hg, hsz, fun j hj => ?_, fun j _ => frozen_of_heap hh _⟩⟩
    rw [cell_of_heap hh, Nat.zero_add]
    have e : (cur.toList.take (zs.length * 1))[j]? = (zs.map (Value.int .u8))[j]? := by rw [ht]
    rw [List.getElem?_take_of_lt (by omega), Array.getElem?_toList] at e
    rw [e]
    simp [hj]
theorem appendb_copy {lo : Nat} {a : Option Addr} {cap : Nat} {zs : List Int} {w : World} (h : Byt lo w (.slice a zs.length cap) zs) (hl : zs.length ≤ 1000000) :
    ∃ a' cap' w', (Builtin.append_ #[28, 28] 28 #[.slice (some ⟨w.heap.size, 0, none⟩) 0 0, .slice a zs.length cap]).run Try.prog (w.alloc (.cells #[] 5)) = .ok (.slice a' zs.length cap') w' ∧ Byt w.heap.size w' (.slice a' zs.length cap') zs ∧ Below w.heap.size w w' := by
  have hb : Below w.heap.size w (w.alloc (.cells #[] 5)) := (Below.refl _ _).alloc (Nat.le_refl _) _
  by_cases hz : zs = []
  · subst hz
    exact ⟨_, _, _, appendb_none _ 0 0 (Nat.le_refl _) a cap _ _, Byt.empty _ _ _ _, hb⟩
  · obtain ⟨i0, hi, hz0, hz1, hz2⟩ := info_parts infoU8
    have h' := h.below hb
    obtain ⟨b, off, rfl, e2, e3⟩ := h.row (List.length_pos_iff.2 hz)
    have h0 : (w.alloc (.cells #[] 5)).ownsRow w.heap.size 5 1 (.slice (some ⟨w.heap.size, 0, none⟩) 0 0) 0 [] := ⟨rfl, .inr ⟨_, 0, #[], rfl, Nat.le_refl _, World.alloc_heap_new w _, Nat.le_refl _, by unfold maxLen; omega, rfl, rfl⟩⟩
    obtain ⟨v', w', hr, hown, hg, _⟩ := run_append_own (P := Try.prog) (w.alloc (.cells #[] 5)) w.heap.size 28 28 5 i0 (.int .u8 0) 1 1 Try.underlying28 hi hz0 hz1 hz2 rfl (by decide)
      _ 0 [] h0 ⟨b, off, none⟩ zs.length cap (zs.map (Value.int .u8)) (by simp)
      (fun j u hj => by
        rw [List.getElem?_map] at hj
        obtain ⟨z, hz', rfl⟩ := Option.map_eq_some_iff.1 hj
        have hjl : j < zs.length := (List.getElem?_eq_some_iff.1 hz').1
        have := (h'.cell (j := j) hjl).1
        rw [hz'] at this
        rw [Addr.add_lit]
        exact this)
      (fun u hu => by obtain ⟨z, _, rfl⟩ := List.mem_map.1 hu; rfl) (by unfold maxLen; omega) (by omega) (by simp)
    have ho : OwnB w.heap.size w' v' zs := by
      refine ⟨?_, h.words⟩
      rw [Nat.zero_add, List.nil_append] at hown
      exact hown
    have hbw : Below w.heap.size w w' := hb.grown hg (by simp) (fun k hk => (h0.lt k hk).1)
    obtain ⟨a', cap', rfl, hs⟩ := ownb_seg ho
    exact ⟨a', cap', w', hr, hs, hbw⟩
set_option maxRecDepth 100000 in
set_option maxHeartbeats 400000 in
theorem copyb_any {lo : Nat} {a : Option Addr} {cap : Nat} {zs : List Int} {w : World} (h : Byt lo w (.slice a zs.length cap) zs) (hl : zs.length ≤ 1000000) :
    Calls Try.prog 22 #[.slice a zs.length cap] w fun e w' => ∃ a' cap', e = .returned (.slice a' zs.length cap') ∧ Byt w.heap.size w' (.slice a' zs.length cap') zs ∧ Below w.heap.size w w' := by
  obtain ⟨a', cap', w', hap, hs, hb⟩ := appendb_copy h hl
  go_enter Try.func22, Try.ntmps22
  go_wp2_with (at_builtin; refine Lib.wpList_append_run _ rfl _ _ _ _ rfl _ _ rfl rfl _ _ hap ?_)
  go_ret
  exact ⟨_, _, rfl, hs, hb⟩
theorem Byt.above {lo : Nat} {W W' : World} {sv : Value} {zs : List Int} (h : Byt lo W sv zs) (hk : ∀ k, lo ≤ k → W'.heap[k]? = W.heap[k]?) (hs : W.heap.size ≤ W'.heap.size) : Byt lo W' sv zs := by
  obtain ⟨hw, a, cap, e, h1, h3⟩ := h
  refine ⟨hw, a, cap, e, h1, fun hz => ?_⟩
  obtain ⟨b, off, e1, e2, e3, e4, e5⟩ := h3 hz
  exact ⟨b, off, e1, e2, by omega, fun j hj => (World.cell?_of_block (a := ⟨b, off + j, none⟩) (hk b e2)).trans (e4 j hj), fun j hj => (World.frozen?_of_block (a := ⟨b, off + j, none⟩) (hk b e2)).trans (e5 j hj)⟩
theorem Byt.block {lo : Nat} {W : World} {a : Option Addr} {n cap : Nat} {zs : List Int} (h : Byt lo W (.slice a n cap) zs) : zs ≠ [] → ∀ b o, a = some ⟨b, o, none⟩ → b < W.heap.size := fun hz b o e => by
  obtain ⟨hl, _⟩ := h.len
  obtain ⟨b', o', e1, _, e3⟩ := h.row (by rw [hl]; exact List.length_pos_iff.2 hz)
  rw [e] at e1
  simp only [Option.some.injEq, Addr.mk.injEq] at e1
  omega
theorem run_str {lo : Nat} {W : World} {a : Option Addr} {len cap : Nat} {zs : List Int} (h : Byt lo W (.slice a len cap) zs) : (convert 28 9 (.slice a len cap)).run Try.prog W = .ok (.string (strOfNums zs)) W := by
  obtain ⟨rfl, _⟩ := h.len
  by_cases hz : zs = []
  · subst hz
    cases a with
    | none => exact run_convert_bytes_nil (P := Try.prog) W 28 5 Try.underlying28 Try.underlying5 0 cap 9 Try.underlying9
    | some p =>
      obtain ⟨b, off, spot⟩ := p
      have := run_convert_bytes_string (P := Try.prog) W 28 9 5 (some ⟨b, off, spot⟩) 0 cap Try.underlying28 Try.underlying5 Try.underlying9
      rw [List.length_nil, this, run_bytesToString W ⟨b, off, spot⟩ 0 cap [] (by simp [loadCells, loadCellsFrom])]
      rfl
  · obtain ⟨b, off, rfl, _, _⟩ := h.row (List.length_pos_iff.2 hz)
    refine run_convert_bytes_arg (P := Try.prog) W 28 5 Try.underlying28 Try.underlying5 b off zs.length cap zs rfl (fun i hi => ?_) 9 Try.underlying9
    rw [(h.cell hi).1, List.getD_eq_getElem?_getD]
abbrev IsW (k : Int) : Prop := k = 1 ∨ k = 2 ∨ k = 4 ∨ k = 8
def be (k x : Nat) : List Int := (List.range k).map fun i => ((x / 256 ^ (k - 1 - i) % 256 : Nat) : Int)
theorem be_length (k x : Nat) : (be k x).length = k := by simp [be]
theorem be_octs (k x : Nat) : Octs (be k x) := fun z hz => by
  obtain ⟨i, _, rfl⟩ := List.mem_map.1 hz
  omega
def nb (zs : List Int) : Nat := zs.foldl (fun n z => 256 * n + z.toNat) 0
theorem nb_snoc (zs : List Int) (z : Int) : nb (zs ++ [z]) = 256 * nb zs + z.toNat := by simp [nb, List.foldl_append]
theorem be_succ (k x : Nat) : be (k + 1) x = be k (x / 256) ++ [((x % 256 : Nat) : Int)] := by
  unfold be
  rw [List.range_succ, List.map_append, List.map_singleton]
  congr 1
  · refine List.map_congr_left fun i hi => ?_
    have hi := List.mem_range.1 hi
    rw [Nat.div_div_eq_div_mul, show k + 1 - 1 - i = (k - 1 - i) + 1 by omega, Nat.pow_succ, Nat.mul_comm]
  · simp
theorem nb_be (k x : Nat) (h : x < 256 ^ k) : nb (be k x) = x := by
  induction k generalizing x with
  | zero => simp at h; subst h; rfl
  | succ k ih =>
    rw [be_succ, nb_snoc, ih (x / 256) (by rw [Nat.pow_succ] at h; omega), Int.toNat_natCast]
    omega
theorem nb_lt (zs : List Int) (h : Octs zs) : nb zs < 256 ^ zs.length := by
  have key : ∀ (zs : List Int) (n k : Nat), Octs zs → n < 256 ^ k → zs.foldl (fun n z => 256 * n + z.toNat) n < 256 ^ (k + zs.length) := by
    intro zs
    induction zs with
    | nil => intro n k _ hn; simpa using hn
    | cons z zs ih =>
      intro n k ho hn
      have hz := ho.head
      have := ih (256 * n + z.toNat) (k + 1) ho.tail (by rw [Nat.pow_succ]; omega)
      rw [show k + (z :: zs).length = k + 1 + zs.length by simp; omega]
      exact this
  have := key zs 0 0 h (by simp)
  rwa [Nat.zero_add] at this
def rawW (most : Nat) (s : List Int × Int) (ys : List Int) : List Int × Int :=
  if s.2 = 0 then (if most < s.1.length + ys.length then (s.1, 4) else (s.1 ++ ys, 0)) else s
abbrev Fits (k n : Int) : Prop := 0 ≤ n ∧ n < 256 ^ k.toNat
def putW (most : Nat) (s : List Int × Int) (k n : Int) : List Int × Int :=
  if s.2 = 0 then (if IsW k then (if Fits k n then rawW most s (be k.toNat n.toNat) else (s.1, 3)) else (s.1, 2)) else s
structure RS where
  at_ : Nat
  er : Int
  fa : Int
def rawR (zs : List Int) (s : RS) (n : Int) : List Int × RS :=
  if s.er = 0 then
    if n < 0 then ([], ⟨s.at_, 2, s.at_⟩)
    else if (zs.length : Int) - s.at_ < n then ([], ⟨s.at_, 7, zs.length⟩)
    else ((zs.drop s.at_).take n.toNat, ⟨s.at_ + n.toNat, 0, 0⟩)
  else ([], s)
def getR (zs : List Int) (s : RS) (k : Int) : Nat × RS :=
  if s.er = 0 then
    if IsW k then
      if (zs.length : Int) - s.at_ < k then (0, ⟨s.at_, 7, zs.length⟩)
      else if nb ((zs.drop s.at_).take k.toNat) < 9223372036854775808 then (nb ((zs.drop s.at_).take k.toNat), ⟨s.at_ + k.toNat, 0, 0⟩)
      else (0, ⟨s.at_, 3, s.at_⟩)
    else (0, ⟨s.at_, 2, s.at_⟩)
  else (0, s)
def restR (zs : List Int) (s : RS) : Int := if s.er = 0 then (zs.length : Int) - s.at_ else 0
def endR (zs : List Int) (s : RS) : Int × Int := if s.er = 0 ∧ s.at_ < zs.length then (4, s.at_) else (s.er, s.fa)
def RS.Ok (zs : List Int) (s : RS) : Prop := s.at_ ≤ zs.length ∧ (s.er = 0 → s.fa = 0) ∧ (0 ≤ s.er ∧ s.er < 100) ∧ (0 ≤ s.fa ∧ s.fa ≤ zs.length)
theorem RS.ok_fault {zs : List Int} {a : Nat} (h : a ≤ zs.length) (e f : Int) (h0 : 0 < e ∧ e < 100) (h1 : 0 ≤ f ∧ f ≤ zs.length) : RS.Ok zs ⟨a, e, f⟩ := ⟨h, fun h => by have := h0.1; change e = 0 at h; omega, ⟨Int.le_of_lt h0.1, h0.2⟩, h1⟩
theorem RS.ok_none {zs : List Int} {a : Nat} (h : a ≤ zs.length) : RS.Ok zs ⟨a, 0, 0⟩ := ⟨h, fun _ => rfl, ⟨Int.le_refl 0, by show (0 : Int) < 100; decide⟩, ⟨Int.le_refl 0, Int.natCast_nonneg _⟩⟩
theorem RS.Ok.start (zs : List Int) : RS.Ok zs ⟨0, 0, 0⟩ := RS.ok_none (Nat.zero_le _)
theorem RS.Ok.get {zs : List Int} {s : RS} (h : s.Ok zs) (k : Int) : (getR zs s k).2.Ok zs := by
  have h1 := h.1
  unfold getR
  split
  · split
    · rename_i hw
      split
      · exact RS.ok_fault h1 7 zs.length (by decide) (by omega)
      · split
        · exact RS.ok_none (by omega)
        · exact RS.ok_fault h1 3 s.at_ (by decide) (by omega)
    · exact RS.ok_fault h1 2 s.at_ (by decide) (by omega)
  · exact h
structure PV where
  k : Int
  s : Int
  b : Int
  i : Int
  r : Int
  zs : List Int
def PV.zero : PV := ⟨0, 0, 0, 0, 0, []⟩
abbrev U4 (n : Int) : Prop := 0 ≤ n ∧ n ≤ 4294967295
def nums (k : Int) : Int := if k = 1 then 3 else if k = 2 then 2 else if k = 3 ∨ k = 4 ∨ k = 5 then 1 else 0
abbrev May (p : PV) : Prop :=
  (1 ≤ p.k ∧ p.k ≤ 5) ∧ U4 p.s ∧ ((p.k = 1 ∨ p.k = 2) ∧ U4 p.b ∨ ¬ (p.k = 1 ∨ p.k = 2) ∧ p.b = 0) ∧ (p.k = 1 ∧ U4 p.i ∨ ¬ p.k = 1 ∧ p.i = 0) ∧ (p.k = 4 ∧ (1 ≤ p.r ∧ p.r ≤ 15) ∨ ¬ p.k = 4 ∧ p.r = 0) ∧ ((p.k = 1 ∨ p.k = 5) ∧ (1 ≤ p.zs.length ∧ p.zs.length ≤ 65535) ∨ ¬ (p.k = 1 ∨ p.k = 5) ∧ p.zs.length = 0)
def checkP (p : PV) : Int := if May p then 0 else 2
def body (p : PV) : List Int := be 1 p.k.toNat ++ (be 4 p.s.toNat ++ ((if p.k = 1 ∨ p.k = 2 then be 4 p.b.toNat else []) ++ ((if p.k = 1 then be 4 p.i.toNat else []) ++ ((if p.k = 4 then be 1 p.r.toNat else []) ++ p.zs))))
def bodyLen (p : PV) : Nat := 5 + (if p.k = 1 ∨ p.k = 2 then 4 else 0) + (if p.k = 1 then 4 else 0) + (if p.k = 4 then 1 else 0) + p.zs.length
def tk (bs : List Int) : Nat × List Int × Bool := if bs.length < 4 then (0, [], false) else (nb (bs.take 4), bs.drop 4, true)
def tkIf (c : Bool) (st : Nat × List Int × Bool) : Nat × List Int × Bool := if (st.2.2 && c) = true then tk st.2.1 else (0, st.2.1, st.2.2)
def d2 (k : Int) (t : List Int) := tkIf (decide (k = 1 ∨ k = 2)) (tk t)
def d3 (k : Int) (t : List Int) := tkIf (decide (k = 1)) (d2 k t)
def d4 (k : Int) (st : Nat × List Int × Bool) : Int × List Int := if st.2.2 = true ∧ k = 4 ∧ 0 < st.2.1.length then (st.2.1.headD 0, st.2.1.tail) else (0, st.2.1)
def docP (k : Int) (t : List Int) : PV := ⟨k, (tk t).1, (d2 k t).1, (d3 k t).1, (d4 k (d3 k t)).1, (d4 k (d3 k t)).2⟩
def getX : List Int → PV × Int
  | [] => (PV.zero, 6)
  | k :: t => if (d3 k t).2.2 = true ∧ May (docP k t) then (docP k t, 0) else (PV.zero, 6)
structure MV where
  size : Int
  sym : Int
  k : Int
  seed : Int
  ts : List Int
def MV.zero : MV := ⟨0, 0, 0, 0, []⟩
abbrev Wt (t : Int) : Prop := 0 ≤ t ∧ t ≤ 16777215
def wts (ts : List Int) : Bool := ts.all (fun t => decide (Wt t)) && ts.any (fun t => decide (0 < t))
abbrev MayM (m : MV) : Prop := (0 ≤ m.size ∧ m.size ≤ 4294967295) ∧ (1 ≤ m.sym ∧ m.sym ≤ 65535) ∧ (1 ≤ m.k ∧ m.k ≤ 65536) ∧ 0 ≤ m.seed ∧ m.ts.length ≤ 10000 ∧ (wts m.ts = true ∧ (m.ts.length : Int) ≤ m.k)
def fours (ts : List Int) : List Int := ts.flatMap fun t => be 4 t.toNat
theorem fours_nil : fours [] = [] := rfl
theorem fours_cons (t : Int) (ts : List Int) : fours (t :: ts) = be 4 t.toNat ++ fours ts := rfl
theorem fours_snoc (ts : List Int) (t : Int) : fours (ts ++ [t]) = fours ts ++ be 4 t.toNat := by simp [fours]
theorem fours_length : ∀ ts : List Int, (fours ts).length = 4 * ts.length
  | [] => rfl
  | t :: ts => by rw [fours_cons, List.length_append, be_length, fours_length ts, List.length_cons]; omega
def headM (m : MV) : List Int := be 4 m.size.toNat ++ (be 2 m.sym.toNat ++ (be 4 m.k.toNat ++ (be 8 m.seed.toNat ++ be 2 m.ts.length)))
def bodyM (m : MV) : List Int := headM m ++ fours m.ts
theorem headM_length (m : MV) : (headM m).length = 20 := by simp [headM, be_length]
theorem bodyM_length (m : MV) : (bodyM m).length = 20 + 4 * m.ts.length := by
  unfold bodyM
  rw [List.length_append, headM_length, fours_length]
def quads (n : Nat) (x : List Int) : List Int := (List.range n).map fun i => ((nb ((x.drop (4 * i)).take 4) : Nat) : Int)
theorem quads_fours : ∀ (ts : List Int), (∀ t ∈ ts, 0 ≤ t ∧ t ≤ 4294967295) → quads ts.length (fours ts) = ts
  | [], _ => rfl
  | t :: ts, h => by
    have ht := h t (List.mem_cons_self ..)
    have ih := quads_fours ts (fun u hu => h u (List.mem_cons_of_mem _ hu))
    unfold quads at ih ⊢
    rw [List.length_cons, List.range_succ_eq_map, List.map_cons, List.map_map]
    refine List.cons_eq_cons.2 ⟨?_, Eq.trans (List.map_congr_left fun i _ => ?_) ih⟩
    · rw [Nat.mul_zero, List.drop_zero, fours_cons, List.take_append_of_le_length (by rw [be_length]; omega), List.take_of_length_le (by rw [be_length]; omega), nb_be 4 _ (by rw [show 256 ^ 4 = 4294967296 by decide]; omega)]
      omega
    · show ((nb (((fours (t :: ts)).drop (4 * (i + 1))).take 4) : Nat) : Int) = _
      rw [fours_cons, List.drop_append, List.drop_of_length_le (by rw [be_length]; omega), be_length, show 4 * (i + 1) - 4 = 4 * i by omega]
      rfl
def fld (x : List Int) (o w : Nat) : Nat := nb ((x.drop o).take w)
def cnt (x : List Int) : Nat := fld x 18 2
def docM (x : List Int) : MV := ⟨fld x 0 4, fld x 4 2, fld x 6 4, fld x 10 8, quads (cnt x) (x.drop 20)⟩
def getM (x : List Int) : MV × Int := if (20 ≤ x.length ∧ x.length = 20 + 4 * cnt x) ∧ fld x 10 8 ≤ 9223372036854775807 ∧ MayM (docM x) then (docM x, 0) else (MV.zero, 6)
theorem wts_each {ts : List Int} (h : wts ts = true) : ∀ t ∈ ts, Wt t := by
  unfold wts at h
  rw [Bool.and_eq_true] at h
  intro t ht
  exact of_decide_eq_true (List.all_eq_true.1 h.1 t ht)
theorem fld_pre {a : List Int} {w x : Nat} (rest : List Int) {o : Nat} (ho : a.length = o) (hx : x < 256 ^ w) : fld (a ++ (be w x ++ rest)) o w = x := by
  unfold fld
  rw [List.drop_append_of_le_length (by omega), List.drop_of_length_le (by omega), List.nil_append, List.take_append_of_le_length (by rw [be_length]; omega), List.take_of_length_le (by rw [be_length]; omega), nb_be w x hx]
theorem getM_body {m : MV} (h : MayM m) (hs : m.seed ≤ 9223372036854775807) : getM (bodyM m) = (m, 0) := by
  obtain ⟨z, y, k, s, ts⟩ := m
  have h' := h
  obtain ⟨h1, h2, h3, h4, h5, h6, h7⟩ := h'
  dsimp only at h1 h2 h3 h4 h5 h6 h7 hs
  have e0 : fld (bodyM ⟨z, y, k, s, ts⟩) 0 4 = z.toNat := by
    have := fld_pre (a := []) (w := 4) (x := z.toNat) ((be 2 y.toNat ++ (be 4 k.toNat ++ (be 8 s.toNat ++ be 2 ts.length))) ++ fours ts) (o := 0) rfl (by rw [show 256 ^ 4 = 4294967296 by decide]; omega)
    unfold bodyM headM
    simpa using this
  have e1 : fld (bodyM ⟨z, y, k, s, ts⟩) 4 2 = y.toNat := by
    have := fld_pre (a := be 4 z.toNat) (w := 2) (x := y.toNat) ((be 4 k.toNat ++ (be 8 s.toNat ++ be 2 ts.length)) ++ fours ts) (o := 4) (by simp [be_length]) (by rw [show 256 ^ 2 = 65536 by decide]; omega)
    unfold bodyM headM
    simpa using this
  have e2 : fld (bodyM ⟨z, y, k, s, ts⟩) 6 4 = k.toNat := by
    have := fld_pre (a := be 4 z.toNat ++ be 2 y.toNat) (w := 4) (x := k.toNat) ((be 8 s.toNat ++ be 2 ts.length) ++ fours ts) (o := 6) (by simp [be_length]) (by rw [show 256 ^ 4 = 4294967296 by decide]; omega)
    unfold bodyM headM
    simpa using this
  have e3 : fld (bodyM ⟨z, y, k, s, ts⟩) 10 8 = s.toNat := by
    have := fld_pre (a := be 4 z.toNat ++ (be 2 y.toNat ++ be 4 k.toNat)) (w := 8) (x := s.toNat) (be 2 ts.length ++ fours ts) (o := 10) (by simp [be_length]) (by rw [show 256 ^ 8 = 18446744073709551616 by decide]; omega)
    unfold bodyM headM
    simpa using this
  have e4 : cnt (bodyM ⟨z, y, k, s, ts⟩) = ts.length := by
    have := fld_pre (a := be 4 z.toNat ++ (be 2 y.toNat ++ (be 4 k.toNat ++ be 8 s.toNat))) (w := 2) (x := ts.length) (fours ts) (o := 18) (by simp [be_length]) (by rw [show 256 ^ 2 = 65536 by decide]; omega)
    unfold cnt bodyM headM
    simpa using this
  have e5 : quads ts.length ((bodyM ⟨z, y, k, s, ts⟩).drop 20) = ts := by
    unfold bodyM
    rw [List.drop_append_of_le_length (by rw [headM_length]; omega), List.drop_of_length_le (by rw [headM_length]; omega), List.nil_append]
    exact quads_fours ts (fun t ht => by have := wts_each h6 t ht; unfold Wt at this; omega)
  have ed : docM (bodyM ⟨z, y, k, s, ts⟩) = ⟨z, y, k, s, ts⟩ := by
    unfold docM
    rw [e0, e1, e2, e3, e4, e5]
    simp only [MV.mk.injEq, and_true]
    omega
  unfold getM
  rw [ed, e3, e4, bodyM_length, if_pos ⟨⟨by omega, rfl⟩, by omega, h⟩]
def Nums (zs : List Int) : Prop := ∀ z ∈ zs, -9223372036854775808 ≤ z ∧ z < 9223372036854775808
theorem Nums.nil : Nums [] := fun _ h => by cases h
theorem Nums.cons {z : Int} {zs : List Int} (h : -9223372036854775808 ≤ z ∧ z < 9223372036854775808) (hs : Nums zs) : Nums (z :: zs) := fun y hy => by
  rcases List.mem_cons.1 hy with rfl | hy
  · exact h
  · exact hs y hy
theorem Nums.tail {z : Int} {zs : List Int} (h : Nums (z :: zs)) : Nums zs := fun y hy => h y (List.mem_cons_of_mem _ hy)
theorem Nums.head {z : Int} {zs : List Int} (h : Nums (z :: zs)) : -9223372036854775808 ≤ z ∧ z < 9223372036854775808 := h z List.mem_cons_self
theorem Nums.append {xs ys : List Int} (hx : Nums xs) (hy : Nums ys) : Nums (xs ++ ys) := fun z hz => (List.mem_append.1 hz).elim (hx z) (hy z)
theorem Nums.take {zs : List Int} (h : Nums zs) (k : Nat) : Nums (zs.take k) := fun z hz => h z (List.mem_of_mem_take hz)
theorem Nums.drop {zs : List Int} (h : Nums zs) (k : Nat) : Nums (zs.drop k) := fun z hz => h z (List.mem_of_mem_drop hz)
theorem Nums.getD {zs : List Int} (h : Nums zs) (k : Nat) : -9223372036854775808 ≤ zs[k]?.getD 0 ∧ zs[k]?.getD 0 < 9223372036854775808 := by
  by_cases hk : k < zs.length
  · rw [List.getElem?_eq_getElem hk]; exact h _ (List.getElem_mem hk)
  · rw [List.getElem?_eq_none (by omega)]; decide
theorem Nums.set {zs : List Int} (h : Nums zs) (k : Nat) {x : Int} (hx : -9223372036854775808 ≤ x ∧ x < 9223372036854775808) : Nums (zs.set k x) := fun z hz => by
  rcases List.mem_or_eq_of_mem_set hz with hz | rfl
  · exact h z hz
  · exact hx
def Intz (lo : Nat) (W : World) (sv : Value) (zs : List Int) : Prop :=
  Nums zs ∧ ∃ a cap, sv = .slice a zs.length cap ∧ zs.length ≤ cap ∧
    (zs ≠ [] → ∃ b off, a = some ⟨b, off, none⟩ ∧ lo ≤ b ∧ b < W.heap.size ∧ (∀ j, j < zs.length → W.cell? ⟨b, off + j, none⟩ = some (.int .i64 (zs[j]?.getD 0))) ∧ (∀ j, j < zs.length → W.frozen? ⟨b, off + j, none⟩ = false))
theorem Intz.words {lo : Nat} {W : World} {sv : Value} {zs : List Int} (h : Intz lo W sv zs) : Nums zs := h.1
theorem Intz.below {lo : Nat} {W W' : World} {sv : Value} {zs : List Int} (h : Intz lo W sv zs) (hb : Below W.heap.size W W') : Intz lo W' sv zs := by
  obtain ⟨hw, a, cap, e, h1, h3⟩ := h
  refine ⟨hw, a, cap, e, h1, fun hz => ?_⟩
  obtain ⟨b, off, e1, e2, e3, e4, e5⟩ := h3 hz
  exact ⟨b, off, e1, e2, Nat.lt_of_lt_of_le e3 hb.size, fun j hj => (hb.cell (p := ⟨b, off + j, none⟩) e3).trans (e4 j hj), fun j hj => (hb.frozen (p := ⟨b, off + j, none⟩) e3).trans (e5 j hj)⟩
theorem Intz.mono {lo lo' : Nat} {W : World} {sv : Value} {zs : List Int} (h : Intz lo W sv zs) (hl : lo' ≤ lo) : Intz lo' W sv zs := by
  obtain ⟨hw, a, cap, e, h1, h3⟩ := h
  refine ⟨hw, a, cap, e, h1, fun hz => ?_⟩
  obtain ⟨b, off, e1, e2, r⟩ := h3 hz
  exact ⟨b, off, e1, Nat.le_trans hl e2, r⟩
theorem Intz.nil (lo : Nat) (W : World) : Intz lo W (.slice none 0 0) [] := ⟨Nums.nil, none, 0, rfl, Nat.le_refl _, fun h => absurd rfl h⟩
theorem Intz.empty (lo : Nat) (W : World) (a : Option Addr) (cap : Nat) : Intz lo W (.slice a 0 cap) [] := ⟨Nums.nil, a, cap, rfl, Nat.zero_le _, fun h => absurd rfl h⟩
theorem Intz.take {lo : Nat} {W : World} {a : Option Addr} {len cap : Nat} {zs : List Int} (h : Intz lo W (.slice a len cap) zs) {k : Nat} (hk : k ≤ zs.length) : Intz lo W (.slice a k cap) (zs.take k) := by
  obtain ⟨hw, a', cap', e, h1, h3⟩ := h
  simp only [Value.slice.injEq] at e
  obtain ⟨rfl, rfl, rfl⟩ := e
  refine ⟨hw.take k, a, cap, by rw [List.length_take, Nat.min_eq_left hk], by rw [List.length_take]; omega, fun hz => ?_⟩
  obtain ⟨b, off, e1, e2, e3, e4, e5⟩ := h3 (by intro e; apply hz; rw [e]; simp)
  refine ⟨b, off, e1, e2, e3, fun j hj => ?_, fun j hj => e5 j (by rw [List.length_take] at hj; omega)⟩
  rw [List.length_take] at hj
  rw [e4 j (by omega), List.getElem?_take_of_lt (by omega)]
theorem Intz.set {lo : Nat} {W : World} {b off len cap : Nat} {zs : List Int} (h : Intz lo W (.slice (some ⟨b, off, none⟩) len cap) zs) {k : Nat} (hk : k < zs.length) {x : Int} (hx : -9223372036854775808 ≤ x ∧ x < 9223372036854775808) :
    Intz lo (W.setCell ⟨b, off + k, none⟩ (.int .i64 x)) (.slice (some ⟨b, off, none⟩) len cap) (zs.set k x) := by
  obtain ⟨hw, a', cap', e, h1, h3⟩ := h
  simp only [Value.slice.injEq] at e
  obtain ⟨rfl, rfl, rfl⟩ := e
  obtain ⟨b', off', e1, e2, e3, e4, e5⟩ := h3 (by intro e; rw [e] at hk; simp at hk)
  simp only [Option.some.injEq, Addr.mk.injEq] at e1
  obtain ⟨rfl, rfl, _⟩ := e1
  refine ⟨hw.set k hx, _, _, by rw [List.length_set], by rw [List.length_set]; exact h1, fun _ => ⟨b, off, rfl, e2, by simpa [World.setCell] using e3, fun j hj => ?_, fun j hj => ?_⟩⟩
  · rw [List.length_set] at hj
    by_cases e : j = k
    · subst e
      rw [World.cell?_setCell_same' _ _ _ (by rw [e4 j hj]; rfl), List.getElem?_set_self hj]; rfl
    · rw [World.cell?_setCell_other W ⟨b, off + k, none⟩ ⟨b, off + j, none⟩ _ (by intro h; injection h with h1 h2; omega), e4 j hj, List.getElem?_set_ne (by omega)]
  · rw [List.length_set] at hj
    rw [World.frozen?_setCell]; exact e5 j hj
theorem Intz.row {lo : Nat} {W : World} {a : Option Addr} {len cap : Nat} {zs : List Int} (h : Intz lo W (.slice a len cap) zs) (h0 : 0 < len) : ∃ b off, a = some ⟨b, off, none⟩ ∧ lo ≤ b ∧ b < W.heap.size := by
  obtain ⟨hw, a', cap', e, h1, h3⟩ := h
  simp only [Value.slice.injEq] at e
  obtain ⟨rfl, rfl, rfl⟩ := e
  obtain ⟨b, off, e1, e2, e3, _, _⟩ := h3 (List.length_pos_iff.1 h0)
  exact ⟨b, off, e1, e2, e3⟩
theorem Intz.cell {lo : Nat} {W : World} {b off len cap : Nat} {zs : List Int} (h : Intz lo W (.slice (some ⟨b, off, none⟩) len cap) zs) {j : Nat} (hj : j < len) : W.cell? ⟨b, off + j, none⟩ = some (.int .i64 (zs[j]?.getD 0)) ∧ W.frozen? ⟨b, off + j, none⟩ = false := by
  obtain ⟨hw, a', cap', e, h1, h3⟩ := h
  simp only [Value.slice.injEq] at e
  obtain ⟨rfl, rfl, rfl⟩ := e
  obtain ⟨b', off', e1, e2, e3, e4, e5⟩ := h3 (by intro e; rw [e] at hj; simp at hj)
  simp only [Option.some.injEq, Addr.mk.injEq] at e1
  obtain ⟨rfl, rfl, _⟩ := e1
  exact ⟨e4 j hj, e5 j hj⟩
theorem Intz.len {lo : Nat} {W : World} {a : Option Addr} {len cap : Nat} {zs : List Int} (h : Intz lo W (.slice a len cap) zs) : len = zs.length ∧ len ≤ cap := by
  obtain ⟨hw, a', cap', e, h1, h3⟩ := h
  simp only [Value.slice.injEq] at e
  obtain ⟨rfl, rfl, rfl⟩ := e
  exact ⟨rfl, h1⟩
theorem Intz.drew {lo : Nat} {W : World} {sv : Value} {zs : List Int} (h : Intz lo W sv zs) : Intz lo W.drew sv zs := h
theorem infoI64 : (Try.prog.info? 3).map (fun i => (i.zero, i.size, i.bytes)) = some (some (.int .i64 0), 1, 8) := by kernel_rfl
def OwnI (lo : Nat) (W : World) (v : Value) (zs : List Int) : Prop := W.ownsRow lo 3 1 v zs.length (zs.map (Value.int .i64)) ∧ Nums zs
theorem owni_nil (lo : Nat) (W : World) : OwnI lo W (.slice none 0 0) [] := ⟨World.ownsRow_nil W lo _ _, Nums.nil⟩
theorem owni_seg {lo : Nat} {W : World} {v : Value} {zs : List Int} (h : OwnI lo W v zs) : ∃ a cap, v = .slice a zs.length cap ∧ Intz lo W (.slice a zs.length cap) zs := by
  obtain ⟨⟨h1, h2⟩, hw⟩ := h
  rcases h2 with ⟨rfl, h0⟩ | ⟨g, cap, cur, rfl, hg, hh, hc, hm, hs, ht⟩
  · obtain rfl : zs = [] := List.length_eq_zero_iff.1 h0
    exact ⟨none, 0, rfl, Intz.nil _ _⟩
  · have hsz : g < W.heap.size := (Array.getElem?_eq_some_iff.1 hh).1
    refine ⟨_, _, rfl, hw, _, _, rfl, hc, fun _ => ⟨g, 0, rfl, hg, hsz, fun j hj => ?_, fun j _ => frozen_of_heap hh _⟩⟩
    rw [cell_of_heap hh, Nat.zero_add]
    have e : (cur.toList.take (zs.length * 1))[j]? = (zs.map (Value.int .i64))[j]? := by rw [ht]
    rw [List.getElem?_take_of_lt (by omega), Array.getElem?_toList] at e
    rw [e]
    simp [hj]
theorem owni_append {lo : Nat} {w : World} {v : Value} {zs : List Int} (h : OwnI lo w v zs) (x : Int) (hx : -9223372036854775808 ≤ x ∧ x < 9223372036854775808) (hl : zs.length ≤ 1000000) (hlo : lo ≤ w.heap.size) :
    ∃ a' cap' w', (Builtin.append_ #[22, 22] 22 #[v, .slice (some ⟨w.heap.size, 0, none⟩) 1 1]).run Try.prog (w.alloc (.cells #[.int .i64 x] 3)) = .ok (.slice a' (zs.length + 1) cap') w' ∧ OwnI lo w' (.slice a' (zs.length + 1) cap') (zs ++ [x]) ∧ Below lo w w' := by
  obtain ⟨i0, hi, hz0, hz1, hz2⟩ := info_parts infoI64
  have hb : Below lo w (w.alloc (.cells #[.int .i64 x] 3)) := (Below.refl _ _).alloc hlo _
  obtain ⟨v', w', hr, hown, hg, _⟩ := run_append_own (P := Try.prog) (w.alloc (.cells #[.int .i64 x] 3)) lo 22 22 3 i0 (.int .i64 0) 1 8 Try.underlying22 hi hz0 hz1 hz2 rfl (by decide)
    v zs.length (zs.map (Value.int .i64)) (h.1.alloc _) ⟨w.heap.size, 0, none⟩ 1 1 [.int .i64 x] rfl
    (fun j u hj => by
      obtain rfl : j = 0 := by
        cases j with
        | zero => rfl
        | succ j => simp at hj
      obtain rfl : Value.int .i64 x = u := by simpa using hj
      rw [Addr.add_lit]
      exact cell_of_heap (World.alloc_heap_new w _) 0)
    (fun u hu => by obtain rfl : u = .int .i64 x := by simpa using hu
                    rfl) (by unfold maxLen; omega) (by omega) (by simp; omega)
  have hlen : (zs ++ [x]).length = zs.length + 1 := by simp
  have ho : OwnI lo w' v' (zs ++ [x]) := by
    refine ⟨?_, h.2.append (Nums.cons hx Nums.nil)⟩
    rw [hlen, List.map_append]
    exact hown
  have hbw : Below lo w w' := hb.grown hg (by simp; omega) (fun k hk => (h.1.lt k hk).1)
  obtain ⟨a', cap', e, _⟩ := owni_seg ho
  rw [hlen] at e
  subst e
  exact ⟨a', cap', w', hr, ho, hbw⟩
theorem Intz.above {lo : Nat} {W W' : World} {sv : Value} {zs : List Int} (h : Intz lo W sv zs) (hk : ∀ k, lo ≤ k → W'.heap[k]? = W.heap[k]?) (hs : W.heap.size ≤ W'.heap.size) : Intz lo W' sv zs := by
  obtain ⟨hw, a, cap, e, h1, h3⟩ := h
  refine ⟨hw, a, cap, e, h1, fun hz => ?_⟩
  obtain ⟨b, off, e1, e2, e3, e4, e5⟩ := h3 hz
  exact ⟨b, off, e1, e2, by omega, fun j hj => (World.cell?_of_block (a := ⟨b, off + j, none⟩) (hk b e2)).trans (e4 j hj), fun j hj => (World.frozen?_of_block (a := ⟨b, off + j, none⟩) (hk b e2)).trans (e5 j hj)⟩
theorem Intz.block {lo : Nat} {W : World} {a : Option Addr} {n cap : Nat} {zs : List Int} (h : Intz lo W (.slice a n cap) zs) : zs ≠ [] → ∀ b o, a = some ⟨b, o, none⟩ → b < W.heap.size := fun hz b o e => by
  obtain ⟨hl, _⟩ := h.len
  obtain ⟨b', o', e1, _, e3⟩ := h.row (by rw [hl]; exact List.length_pos_iff.2 hz)
  rw [e] at e1
  simp only [Option.some.injEq, Addr.mk.injEq] at e1
  omega
theorem Intz.drop {lo : Nat} {W : World} {b off len cap : Nat} {zs : List Int} (h : Intz lo W (.slice (some ⟨b, off, none⟩) len cap) zs) (k : Nat) (hk : k ≤ len) : Intz lo W (.slice (some ⟨b, off + k, none⟩) (len - k) (cap - k)) (zs.drop k) := by
  obtain ⟨hw, a', cap', e, h1, h3⟩ := h
  simp only [Value.slice.injEq] at e
  obtain ⟨rfl, rfl, rfl⟩ := e
  have hl : (zs.drop k).length = zs.length - k := List.length_drop
  refine ⟨hw.drop k, _, _, by rw [hl], by rw [hl]; omega, fun hz => ?_⟩
  have hp : 0 < zs.length - k := by rw [← hl]; exact List.length_pos_iff.2 hz
  obtain ⟨b', off', e1, e2, e3, e4, e5⟩ := h3 (List.length_pos_iff.1 (by omega))
  simp only [Option.some.injEq, Addr.mk.injEq] at e1
  obtain ⟨rfl, rfl, _⟩ := e1
  refine ⟨b, off + k, rfl, e2, e3, fun j hj => ?_, fun j hj => ?_⟩
  · rw [hl] at hj
    rw [Nat.add_assoc, e4 (k + j) (by omega), List.getElem?_drop]
  · rw [hl] at hj
    rw [Nat.add_assoc]; exact e5 (k + j) (by omega)
def bx (x y : Int) : Int := ((x.toNat ^^^ y.toNat : Nat) : Int)
theorem bx_oct {x y : Int} (hx : 0 ≤ x ∧ x < 256) (hy : 0 ≤ y ∧ y < 256) : 0 ≤ bx x y ∧ bx x y < 256 := by
  have h : x.toNat ^^^ y.toNat < 2 ^ 8 := Nat.xor_lt_two_pow (by omega) (by omega)
  unfold bx
  omega
def xl (xs ys : List Int) : List Int := List.zipWith bx xs ys
def mix (k : Nat) (xs ys : List Int) : List Int := (List.range xs.length).map fun j => if j < k then bx (xs[j]?.getD 0) (ys[j]?.getD 0) else xs[j]?.getD 0
theorem mix_length (k : Nat) (xs ys : List Int) : (mix k xs ys).length = xs.length := by simp [mix]
theorem mix_getD {k : Nat} {xs ys : List Int} {j : Nat} (hj : j < xs.length) : (mix k xs ys)[j]?.getD 0 = if j < k then bx (xs[j]?.getD 0) (ys[j]?.getD 0) else xs[j]?.getD 0 := by
  unfold mix
  rw [List.getElem?_map, List.getElem?_range hj]
  rfl
theorem mix_octs {xs ys : List Int} (hx : Octs xs) (hy : Octs ys) (k : Nat) : Octs (mix k xs ys) := fun z hz => by
  obtain ⟨j, hj, rfl⟩ := List.mem_map.1 hz
  split
  · exact bx_oct (hx.getD j) (hy.getD j)
  · exact hx.getD j
def n8 (a b c d e f g h : Nat) : Nat := a + 256 * b + 65536 * c + 16777216 * d + 4294967296 * e + 1099511627776 * f + 281474976710656 * g + 72057594037927936 * h
structure Turns (b : Nat) (W W' : World) : Prop where
  below : Below b W W'
  other : ∀ k, k ≠ b → k < W.heap.size → W'.heap[k]? = W.heap[k]?
theorem Turns.refl (b : Nat) (W : World) : Turns b W W := ⟨Below.refl _ _, fun _ _ _ => rfl⟩
theorem Turns.trans {b : Nat} {A B C : World} (h : Turns b A B) (k : Turns b B C) : Turns b A C := ⟨h.below.trans k.below, fun i hi hl => (k.other i hi (Nat.lt_of_lt_of_le hl h.below.size)).trans (h.other i hi hl)⟩
theorem Turns.of_below {b : Nat} {A B : World} (hb : b ≤ A.heap.size) (h : Below A.heap.size A B) : Turns b A B := ⟨h.mono hb, fun k _ hl => h.block k hl⟩
theorem Turns.setCell {b : Nat} {A B : World} (h : Turns b A B) (o : Nat) (v : Value) : Turns b A (B.setCell ⟨b, o, none⟩ v) :=
  ⟨h.below.setCell (p := ⟨b, o, none⟩) (Nat.le_refl _) v, fun k hk hl => (Below.heap_setCell _ _ _ _ (by show k ≠ b; exact hk)).trans (h.other k hk hl)⟩
theorem Turns.drew {b : Nat} {A B : World} (h : Turns b A B) : Turns b A B.drew := ⟨h.below.drew, h.other⟩
theorem Seg.turns {lo b g o len cap : Nat} {A B : World} {zs : List Int} (h : Seg lo A (.slice (some ⟨g, o, none⟩) len cap) zs) (ht : Turns b A B) (hg : g ≠ b) : Seg lo B (.slice (some ⟨g, o, none⟩) len cap) zs := by
  obtain ⟨hw, a', cap', e, h1, h3⟩ := h
  refine ⟨hw, a', cap', e, h1, fun hz => ?_⟩
  obtain ⟨b', off', e1, e2, e3, e4, e5⟩ := h3 hz
  simp only [Value.slice.injEq] at e
  obtain ⟨ea, _, _⟩ := e
  rw [e1] at ea
  simp only [Option.some.injEq, Addr.mk.injEq] at ea
  obtain ⟨rfl, rfl, _⟩ := ea
  have hk := ht.other g hg e3
  exact ⟨g, o, e1, e2, Nat.lt_of_lt_of_le e3 ht.below.size, fun j hj => (World.cell?_of_block (a := ⟨g, o + j, none⟩) hk).trans (e4 j hj), fun j hj => (World.frozen?_of_block (a := ⟨g, o + j, none⟩) hk).trans (e5 j hj)⟩
theorem turns2 (g : Nat) (W : World) (u v : Value) : Turns g W ((W.setCell ⟨g, 0, none⟩ u).setCell ⟨g, 1, none⟩ v) := ((Turns.refl g W).setCell 0 u).setCell 1 v
theorem Turns.setCells {b : Nat} {A : World} : ∀ (vs : List Value) (o : Nat) {B : World}, Turns b A B → Turns b A (B.setCells b o vs)
  | [], _, _, h => h
  | v :: vs, o, _, h => Turns.setCells vs (o + 1) (h.setCell o v)
structure Wrote (b o n : Nat) (W W' : World) : Prop where
  turns : Turns b W W'
  cells : ∀ j, j < o ∨ o + n ≤ j → W'.cell? ⟨b, j, none⟩ = W.cell? ⟨b, j, none⟩ ∧ W'.frozen? ⟨b, j, none⟩ = W.frozen? ⟨b, j, none⟩
theorem Wrote.refl (b o n : Nat) (W : World) : Wrote b o n W W := ⟨Turns.refl _ _, fun _ _ => ⟨rfl, rfl⟩⟩
theorem Wrote.trans {b o n : Nat} {A B C : World} (h : Wrote b o n A B) (k : Wrote b o n B C) : Wrote b o n A C :=
  ⟨h.turns.trans k.turns, fun j hj => ⟨(k.cells j hj).1.trans (h.cells j hj).1, (k.cells j hj).2.trans (h.cells j hj).2⟩⟩
theorem Wrote.of_below {b o n : Nat} {A B : World} (hb : b < A.heap.size) (h : Below A.heap.size A B) : Wrote b o n A B :=
  ⟨Turns.of_below (Nat.le_of_lt hb) h, fun _ _ => ⟨h.cell hb, h.frozen hb⟩⟩
theorem Wrote.setCells {b o n : Nat} {A B : World} (h : Wrote b o n A B) (vs : List Value) (i : Nat) (h1 : o ≤ i) (h2 : i + vs.length ≤ o + n) : Wrote b o n A (B.setCells b i vs) :=
  ⟨h.turns.setCells vs i, fun j hj => ⟨(World.cell?_setCells_out b vs i B _ (fun _ _ => by show j < i ∨ i + vs.length ≤ j; omega)).trans (h.cells j hj).1, (World.frozen?_setCells b vs i B _).trans (h.cells j hj).2⟩⟩
theorem Wrote.setCell {b o n : Nat} {A B : World} (h : Wrote b o n A B) (v : Value) (i : Nat) (h1 : o ≤ i) (h2 : i < o + n) : Wrote b o n A (B.setCell ⟨b, i, none⟩ v) := h.setCells [v] i h1 (by simp; omega)
theorem Wrote.drew {b o n : Nat} {A B : World} (h : Wrote b o n A B) : Wrote b o n A B.drew := ⟨h.turns.drew, h.cells⟩
theorem Byt.turns {lo b g o len cap : Nat} {A B : World} {zs : List Int} (h : Byt lo A (.slice (some ⟨g, o, none⟩) len cap) zs) (ht : Turns b A B) (hg : g ≠ b) : Byt lo B (.slice (some ⟨g, o, none⟩) len cap) zs := by
  obtain ⟨hw, a', cap', e, h1, h3⟩ := h
  refine ⟨hw, a', cap', e, h1, fun hz => ?_⟩
  obtain ⟨b', off', e1, e2, e3, e4, e5⟩ := h3 hz
  simp only [Value.slice.injEq] at e
  obtain ⟨ea, _, _⟩ := e
  rw [e1] at ea
  simp only [Option.some.injEq, Addr.mk.injEq] at ea
  obtain ⟨rfl, rfl, _⟩ := ea
  have hk := ht.other g hg e3
  exact ⟨g, o, e1, e2, Nat.lt_of_lt_of_le e3 ht.below.size, fun j hj => (World.cell?_of_block (a := ⟨g, o + j, none⟩) hk).trans (e4 j hj), fun j hj => (World.frozen?_of_block (a := ⟨g, o + j, none⟩) hk).trans (e5 j hj)⟩
theorem Byt.of_cells {lo b o c : Nat} {W : World} {zs : List Int} {n : Nat} (hz : Octs zs) (hn : zs.length = n) (hc : n ≤ c) (hl : lo ≤ b) (hb : b < W.heap.size) (h : ∀ j, j < n → W.cell? ⟨b, o + j, none⟩ = some (.int .u8 (zs[j]?.getD 0)) ∧ W.frozen? ⟨b, o + j, none⟩ = false) : Byt lo W (.slice (some ⟨b, o, none⟩) n c) zs := by
  subst hn
  exact ⟨hz, _, _, rfl, hc, fun _ => ⟨b, o, rfl, hl, hb, fun j hj => (h j hj).1, fun j hj => (h j hj).2⟩⟩
def bytes8 (n : Nat) : Array Value := #[.int .u8 (n % 256 : Nat), .int .u8 (n / 256 % 256 : Nat), .int .u8 (n / 65536 % 256 : Nat), .int .u8 (n / 16777216 % 256 : Nat), .int .u8 (n / 4294967296 % 256 : Nat), .int .u8 (n / 1099511627776 % 256 : Nat), .int .u8 (n / 281474976710656 % 256 : Nat), .int .u8 (n / 72057594037927936 % 256 : Nat)]
theorem strOfNums_toList (xs : List Int) : (strOfNums xs).toList = xs.map fun n => UInt8.ofNat n.toNat := by
  rw [← strOfNums_data]
  exact ByteArray.toList_eq _
theorem strOfNums_inj {xs ys : List Int} (hx : Octs xs) (hy : Octs ys) : (xs.map fun n => UInt8.ofNat n.toNat) = (ys.map fun n => UInt8.ofNat n.toNat) ↔ xs = ys := by
  constructor
  · intro h
    induction xs generalizing ys with
    | nil => cases ys with
      | nil => rfl
      | cons y ys => simp at h
    | cons x xs ih =>
      cases ys with
      | nil => simp at h
      | cons y ys =>
        simp only [List.map_cons, List.cons.injEq] at h
        have h1 := hx.head
        have h2 := hy.head
        have e := congrArg UInt8.toNat h.1
        rw [UInt8.toNat_ofNat_of_lt' (by show x.toNat < 256; omega), UInt8.toNat_ofNat_of_lt' (by show y.toNat < 256; omega)] at e
        rw [ih hx.tail hy.tail h.2, show x = y by omega]
  · intro h; rw [h]
set_option maxRecDepth 100000 in
theorem sameb_any {lo lo' : Nat} {a b : Option Addr} {la ca lb cb : Nat} {xs ys : List Int} {w : World} (ha : Byt lo w (.slice a la ca) xs) (hb : Byt lo' w (.slice b lb cb) ys) :
    Calls Try.prog 15 #[.slice a la ca, .slice b lb cb] w fun e w' => e = .returned (.bool (decide (xs = ys))) ∧ Below w.heap.size w w' := by
  have h1 := run_str ha
  have h2 := run_str hb
  have h3 : ((strOfNums xs).toList == (strOfNums ys).toList) = decide (xs = ys) := by
    rw [strOfNums_toList, strOfNums_toList, Bool.eq_iff_iff, beq_iff_eq, decide_eq_true_iff]
    exact strOfNums_inj ha.words hb.words
  go_enter Try.func15, Try.ntmps15
  go_wp2
  go_ret
  exact ⟨rfl, Below.refl _ _⟩
def cS (x : Nat) : Nat := x / 2 ^^^ (if x % 2 = 1 then 3988292384 else 0)
def cSn : Nat → Nat → Nat
  | 0, x => x
  | n + 1, x => cS (cSn n x)
def cT (k : Nat) : Nat := cSn 8 k
def cStep (f : Nat → Nat) (r : Nat) (z : Int) : Nat := r / 256 ^^^ f ((r % 256) ^^^ z.toNat)
def cReg (f : Nat → Nat) (r : Nat) (zs : List Int) : Nat := zs.foldl (cStep f) r
def cSum (zs : List Int) : Nat := 4294967295 - cReg cT 4294967295 zs
def le4 (s : Nat) : List Int := [((s % 256 : Nat) : Int), ((s / 256 % 256 : Nat) : Int), ((s / 65536 % 256 : Nat) : Int), ((s / 16777216 % 256 : Nat) : Int)]
end Go.Proofs.Ytbebdeaeegcfkaa
