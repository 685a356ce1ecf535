/-
  Joined: Widen Own Byt OModel PMath PGath XNum Turns XMem XEight BytW CMath CSeal.
-/
import Derived.Test.YtedjicimgalneaaSeg
import Derived.Lib.AppendZerosOnto
import Derived.Lib.SliceRun
import Derived.Laws.IdiomCopy
import Derived.Laws.CopyOwn
import Derived.RangeFuncRecord
import Derived.OwnWalk
import Derived.Laws.BytesArg
import Derived.KernelRfl
import Derived.Laws.Bits64
import Derived.Laws.BitsAllLaws
import Derived.Deep.RegionLaw
namespace Go.Proofs.Ytedjicimgalneaa
open Go.RowKit
theorem cell_of_heap {w : World} {g : Nat} {cur : Array Value} {t : TypeId} {fr : Nat × Nat} (h : w.heap[g]? = some (.cells cur t fr)) (j : Nat) : w.cell? ⟨g, j, none⟩ = cur[j]? := by
  simp [World.cell?, h]
theorem frozen_of_heap {w : World} {g : Nat} {cur : Array Value} {t : TypeId} (h : w.heap[g]? = some (.cells cur t (0, 0))) (j : Nat) : w.frozen? ⟨g, j, none⟩ = false := by
  simp [World.frozen?, h]
def Own (lo : Nat) (W : World) (v : Value) (zs : List Int) : Prop := W.ownsRow lo 100 1 v zs.length (zs.map (Value.int .u64)) ∧ Words zs
theorem Seg.block {lo : Nat} {W : World} {a : Option Addr} {n cap : Nat} {zs : List Int} (h : Seg lo W (.slice a n cap) zs) : zs ≠ [] → ∀ b o, a = some ⟨b, o, none⟩ → b < W.heap.size := fun hz b o e => by
  obtain ⟨hl, _⟩ := h.len
  obtain ⟨b', o', e1, _, e3⟩ := h.row (by rw [hl]; exact List.length_pos_iff.2 hz)
  rw [e] at e1
  simp only [Option.some.injEq, Addr.mk.injEq] at e1
  omega
def Octs (zs : List Int) : Prop := ∀ z ∈ zs, 0 ≤ z ∧ z < 256
theorem Octs.nil : Octs [] := fun _ h => by cases h
theorem Octs.cons {z : Int} {zs : List Int} (h : 0 ≤ z ∧ z < 256) (hs : Octs zs) : Octs (z :: zs) := fun y hy => by
  rcases List.mem_cons.1 hy with rfl | hy
  · exact h
  · exact hs y hy
theorem Octs.tail {z : Int} {zs : List Int} (h : Octs (z :: zs)) : Octs zs := fun y hy => h y (List.mem_cons_of_mem _ hy)
theorem Octs.head {z : Int} {zs : List Int} (h : Octs (z :: zs)) : 0 ≤ z ∧ z < 256 := h z List.mem_cons_self
theorem Octs.append {xs ys : List Int} (hx : Octs xs) (hy : Octs ys) : Octs (xs ++ ys) := fun z hz => (List.mem_append.1 hz).elim (hx z) (hy z)
theorem Octs.take {zs : List Int} (h : Octs zs) (k : Nat) : Octs (zs.take k) := fun z hz => h z (List.mem_of_mem_take hz)
theorem Octs.drop {zs : List Int} (h : Octs zs) (k : Nat) : Octs (zs.drop k) := fun z hz => h z (List.mem_of_mem_drop hz)
theorem Octs.getD {zs : List Int} (h : Octs zs) (k : Nat) : 0 ≤ zs[k]?.getD 0 ∧ zs[k]?.getD 0 < 256 := by
  by_cases hk : k < zs.length
  · rw [List.getElem?_eq_getElem hk]; exact h _ (List.getElem_mem hk)
  · rw [List.getElem?_eq_none (by omega)]; decide
theorem Octs.set {zs : List Int} (h : Octs zs) (k : Nat) {x : Int} (hx : 0 ≤ x ∧ x < 256) : Octs (zs.set k x) := fun z hz => by
  rcases List.mem_or_eq_of_mem_set hz with hz | rfl
  · exact h z hz
  · exact hx
def Byt (lo : Nat) (W : World) (sv : Value) (zs : List Int) : Prop :=
  Octs zs ∧ ∃ a cap, sv = .slice a zs.length cap ∧ zs.length ≤ cap ∧
    (zs ≠ [] → ∃ b off, a = some ⟨b, off, none⟩ ∧ lo ≤ b ∧ b < W.heap.size ∧ (∀ j, j < zs.length → W.cell? ⟨b, off + j, none⟩ = some (.int .u8 (zs[j]?.getD 0))) ∧ (∀ j, j < zs.length → W.frozen? ⟨b, off + j, none⟩ = false))
theorem Byt.words {lo : Nat} {W : World} {sv : Value} {zs : List Int} (h : Byt lo W sv zs) : Octs zs := h.1
theorem Byt.below {lo : Nat} {W W' : World} {sv : Value} {zs : List Int} (h : Byt lo W sv zs) (hb : Below W.heap.size W W') : Byt lo W' sv zs := by
  obtain ⟨hw, a, cap, e, h1, h3⟩ := h
  refine ⟨hw, a, cap, e, h1, fun hz => ?_⟩
  obtain ⟨b, off, e1, e2, e3, e4, e5⟩ := h3 hz
  exact ⟨b, off, e1, e2, Nat.lt_of_lt_of_le e3 hb.size, fun j hj => (hb.cell (p := ⟨b, off + j, none⟩) e3).trans (e4 j hj), fun j hj => (hb.frozen (p := ⟨b, off + j, none⟩) e3).trans (e5 j hj)⟩
theorem Byt.mono {lo lo' : Nat} {W : World} {sv : Value} {zs : List Int} (h : Byt lo W sv zs) (hl : lo' ≤ lo) : Byt lo' W sv zs := by
  obtain ⟨hw, a, cap, e, h1, h3⟩ := h
  refine ⟨hw, a, cap, e, h1, fun hz => ?_⟩
  obtain ⟨b, off, e1, e2, r⟩ := h3 hz
  exact ⟨b, off, e1, Nat.le_trans hl e2, r⟩
theorem Byt.nil (lo : Nat) (W : World) : Byt lo W (.slice none 0 0) [] := ⟨Octs.nil, none, 0, rfl, Nat.le_refl _, fun h => absurd rfl h⟩
theorem Byt.empty (lo : Nat) (W : World) (a : Option Addr) (cap : Nat) : Byt lo W (.slice a 0 cap) [] := ⟨Octs.nil, a, cap, rfl, Nat.zero_le _, fun h => absurd rfl h⟩
theorem Byt.take {lo : Nat} {W : World} {a : Option Addr} {len cap : Nat} {zs : List Int} (h : Byt lo W (.slice a len cap) zs) {k : Nat} (hk : k ≤ zs.length) : Byt lo W (.slice a k cap) (zs.take k) := by
  obtain ⟨hw, a', cap', e, h1, h3⟩ := h
  simp only [Value.slice.injEq] at e
  obtain ⟨rfl, rfl, rfl⟩ := e
  refine ⟨hw.take k, a, cap, by rw [List.length_take, Nat.min_eq_left hk], by rw [List.length_take]; omega, fun hz => ?_⟩
  obtain ⟨b, off, e1, e2, e3, e4, e5⟩ := h3 (by intro e; apply hz; rw [e]; simp)
  refine ⟨b, off, e1, e2, e3, fun j hj => ?_, fun j hj => e5 j (by rw [List.length_take] at hj; omega)⟩
  rw [List.length_take] at hj
  rw [e4 j (by omega), List.getElem?_take_of_lt (by omega)]
theorem Byt.set {lo : Nat} {W : World} {b off len cap : Nat} {zs : List Int} (h : Byt lo W (.slice (some ⟨b, off, none⟩) len cap) zs) {k : Nat} (hk : k < zs.length) {x : Int} (hx : 0 ≤ x ∧ x < 256) :
    Byt lo (W.setCell ⟨b, off + k, none⟩ (.int .u8 x)) (.slice (some ⟨b, off, none⟩) len cap) (zs.set k x) := by
  obtain ⟨hw, a', cap', e, h1, h3⟩ := h
  simp only [Value.slice.injEq] at e
  obtain ⟨rfl, rfl, rfl⟩ := e
  obtain ⟨b', off', e1, e2, e3, e4, e5⟩ := h3 (by intro e; rw [e] at hk; simp at hk)
  simp only [Option.some.injEq, Addr.mk.injEq] at e1
  obtain ⟨rfl, rfl, _⟩ := e1
  refine ⟨hw.set k hx, _, _, by rw [List.length_set], by rw [List.length_set]; exact h1, fun _ => ⟨b, off, rfl, e2, by simpa [World.setCell] using e3, fun j hj => ?_, fun j hj => ?_⟩⟩
  · rw [List.length_set] at hj
    by_cases e : j = k
    · subst e
      rw [World.cell?_setCell_same' _ _ _ (by rw [e4 j hj]; rfl), List.getElem?_set_self hj]; rfl
    · rw [World.cell?_setCell_other W ⟨b, off + k, none⟩ ⟨b, off + j, none⟩ _ (by intro h; injection h with h1 h2; omega), e4 j hj, List.getElem?_set_ne (by omega)]
  · rw [List.length_set] at hj
    rw [World.frozen?_setCell]; exact e5 j hj
theorem Byt.row {lo : Nat} {W : World} {a : Option Addr} {len cap : Nat} {zs : List Int} (h : Byt lo W (.slice a len cap) zs) (h0 : 0 < len) : ∃ b off, a = some ⟨b, off, none⟩ ∧ lo ≤ b ∧ b < W.heap.size := by
  obtain ⟨hw, a', cap', e, h1, h3⟩ := h
  simp only [Value.slice.injEq] at e
  obtain ⟨rfl, rfl, rfl⟩ := e
  obtain ⟨b, off, e1, e2, e3, _, _⟩ := h3 (List.length_pos_iff.1 h0)
  exact ⟨b, off, e1, e2, e3⟩
theorem Byt.cell {lo : Nat} {W : World} {b off len cap : Nat} {zs : List Int} (h : Byt lo W (.slice (some ⟨b, off, none⟩) len cap) zs) {j : Nat} (hj : j < len) : W.cell? ⟨b, off + j, none⟩ = some (.int .u8 (zs[j]?.getD 0)) ∧ W.frozen? ⟨b, off + j, none⟩ = false := by
  obtain ⟨hw, a', cap', e, h1, h3⟩ := h
  simp only [Value.slice.injEq] at e
  obtain ⟨rfl, rfl, rfl⟩ := e
  obtain ⟨b', off', e1, e2, e3, e4, e5⟩ := h3 (by intro e; rw [e] at hj; simp at hj)
  simp only [Option.some.injEq, Addr.mk.injEq] at e1
  obtain ⟨rfl, rfl, _⟩ := e1
  exact ⟨e4 j hj, e5 j hj⟩
theorem Byt.len {lo : Nat} {W : World} {a : Option Addr} {len cap : Nat} {zs : List Int} (h : Byt lo W (.slice a len cap) zs) : len = zs.length ∧ len ≤ cap := by
  obtain ⟨hw, a', cap', e, h1, h3⟩ := h
  simp only [Value.slice.injEq] at e
  obtain ⟨rfl, rfl, rfl⟩ := e
  exact ⟨rfl, h1⟩
theorem Byt.drew {lo : Nat} {W : World} {sv : Value} {zs : List Int} (h : Byt lo W sv zs) : Byt lo W.drew sv zs := h
theorem infoU8 : (Try.prog.info? 5).map (fun i => (i.zero, i.size, i.bytes)) = some (some (.int .u8 0), 1, 1) := by kernel_rfl
theorem appendb_none (s : Option Addr) (k G : Nat) (hk : k ≤ G) (a : Option Addr) (cap : Nat) (w : World) (ty : TypeId) : (Builtin.append_ #[22, 22] ty #[.slice s k G, .slice a 0 cap]).run Try.prog w = .ok (.slice s k G) w := by
  obtain ⟨i0, hi, hz0, hz1, hz2⟩ := info_parts infoU8
  have hf : (Builtin.firstCells i0.size 0 (.slice a 0 cap)).run Try.prog w = .ok #[] w := by
    cases a with
    | none => exact run_firstCells_none w i0.size 0 0 cap
    | some a => exact run_firstCells_some w i0.size 0 a 0 cap [] (by simp) (by simp)
  cases s <;> simp [Builtin.append_, run_underlying Try.underlying22, sizeOf, typeInfo, hi, Builtin.lenOf, hf, hk, storeCells]
def OwnB (lo : Nat) (W : World) (v : Value) (zs : List Int) : Prop := W.ownsRow lo 5 1 v zs.length (zs.map (Value.int .u8)) ∧ Octs zs
theorem ownb_nil (lo : Nat) (W : World) : OwnB lo W (.slice none 0 0) [] := ⟨World.ownsRow_nil W lo _ _, Octs.nil⟩
theorem ownb_seg {lo : Nat} {W : World} {v : Value} {zs : List Int} (h : OwnB lo W v zs) : ∃ a cap, v = .slice a zs.length cap ∧ Byt lo W (.slice a zs.length cap) zs := by
  obtain ⟨⟨h1, h2⟩, hw⟩ := h
  rcases h2 with ⟨rfl, h0⟩ | ⟨g, cap, cur, rfl, hg, hh, hc, hm, hs, ht⟩
  · obtain rfl : zs = [] := List.length_eq_zero_iff.1 h0
    exact ⟨none, 0, rfl, Byt.nil _ _⟩
  · have hsz : g < W.heap.size := (Array.getElem?_eq_some_iff.1 hh).1
    refine ⟨_, _, rfl, hw, _, _, rfl, hc, fun _ => ⟨g, 0, rfl, hg, hsz, fun j hj => ?_, fun j _ => frozen_of_heap hh _⟩⟩
    rw [cell_of_heap hh, Nat.zero_add]
    have e : (cur.toList.take (zs.length * 1))[j]? = (zs.map (Value.int .u8))[j]? := by rw [ht]
    rw [List.getElem?_take_of_lt (by omega), Array.getElem?_toList] at e
    rw [e]
    simp [hj]
theorem appendb_copy {lo : Nat} {a : Option Addr} {cap : Nat} {zs : List Int} {w : World} (h : Byt lo w (.slice a zs.length cap) zs) (hl : zs.length ≤ 1000000) :
    ∃ a' cap' w', (Builtin.append_ #[22, 22] 22 #[.slice (some ⟨w.heap.size, 0, none⟩) 0 0, .slice a zs.length cap]).run Try.prog (w.alloc (.cells #[] 5)) = .ok (.slice a' zs.length cap') w' ∧ Byt w.heap.size w' (.slice a' zs.length cap') zs ∧ Below w.heap.size w w' := by
  have hb : Below w.heap.size w (w.alloc (.cells #[] 5)) := (Below.refl _ _).alloc (Nat.le_refl _) _
  by_cases hz : zs = []
  · subst hz
    exact ⟨_, _, _, appendb_none _ 0 0 (Nat.le_refl _) a cap _ _, Byt.empty _ _ _ _, hb⟩
  · obtain ⟨i0, hi, hz0, hz1, hz2⟩ := info_parts infoU8
    have h' := h.below hb
    obtain ⟨b, off, rfl, e2, e3⟩ := h.row (List.length_pos_iff.2 hz)
    have h0 : (w.alloc (.cells #[] 5)).ownsRow w.heap.size 5 1 (.slice (some ⟨w.heap.size, 0, none⟩) 0 0) 0 [] := ⟨rfl, .inr ⟨_, 0, #[], rfl, Nat.le_refl _, World.alloc_heap_new w _, Nat.le_refl _, by unfold maxLen; omega, rfl, rfl⟩⟩
    obtain ⟨v', w', hr, hown, hg, _⟩ := run_append_own (P := Try.prog) (w.alloc (.cells #[] 5)) w.heap.size 22 22 5 i0 (.int .u8 0) 1 1 Try.underlying22 hi hz0 hz1 hz2 rfl (by decide)
      _ 0 [] h0 ⟨b, off, none⟩ zs.length cap (zs.map (Value.int .u8)) (by simp)
      (fun j u hj => by
        rw [List.getElem?_map] at hj
        obtain ⟨z, hz', rfl⟩ := Option.map_eq_some_iff.1 hj
        have hjl : j < zs.length := (List.getElem?_eq_some_iff.1 hz').1
        have := (h'.cell (j := j) hjl).1
        rw [hz'] at this
        rw [Addr.add_lit]
        exact this)
      (fun u hu => by obtain ⟨z, _, rfl⟩ := List.mem_map.1 hu; rfl) (by unfold maxLen; omega) (by omega) (by simp)
    have ho : OwnB w.heap.size w' v' zs := by
      refine ⟨?_, h.words⟩
      rw [Nat.zero_add, List.nil_append] at hown
      exact hown
    have hbw : Below w.heap.size w w' := hb.grown hg (by simp) (fun k hk => (h0.lt k hk).1)
    obtain ⟨a', cap', rfl, hs⟩ := ownb_seg ho
    exact ⟨a', cap', w', hr, hs, hbw⟩
theorem Byt.block {lo : Nat} {W : World} {a : Option Addr} {n cap : Nat} {zs : List Int} (h : Byt lo W (.slice a n cap) zs) : zs ≠ [] → ∀ b o, a = some ⟨b, o, none⟩ → b < W.heap.size := fun hz b o e => by
  obtain ⟨hl, _⟩ := h.len
  obtain ⟨b', o', e1, _, e3⟩ := h.row (by rw [hl]; exact List.length_pos_iff.2 hz)
  rw [e] at e1
  simp only [Option.some.injEq, Addr.mk.injEq] at e1
  omega
theorem run_str {lo : Nat} {W : World} {a : Option Addr} {len cap : Nat} {zs : List Int} (h : Byt lo W (.slice a len cap) zs) : (convert 22 9 (.slice a len cap)).run Try.prog W = .ok (.string (strOfNums zs)) W := by
  obtain ⟨rfl, _⟩ := h.len
  by_cases hz : zs = []
  · subst hz
    cases a with
    | none => exact run_convert_bytes_nil (P := Try.prog) W 22 5 Try.underlying22 Try.underlying5 0 cap 9 Try.underlying9
    | some p =>
      obtain ⟨b, off, spot⟩ := p
      have := run_convert_bytes_string (P := Try.prog) W 22 9 5 (some ⟨b, off, spot⟩) 0 cap Try.underlying22 Try.underlying5 Try.underlying9
      rw [List.length_nil, this, run_bytesToString W ⟨b, off, spot⟩ 0 cap [] (by simp [loadCells, loadCellsFrom])]
      rfl
  · obtain ⟨b, off, rfl, _, _⟩ := h.row (List.length_pos_iff.2 hz)
    refine run_convert_bytes_arg (P := Try.prog) W 22 5 Try.underlying22 Try.underlying5 b off zs.length cap zs rfl (fun i hi => ?_) 9 Try.underlying9
    rw [(h.cell hi).1, List.getD_eq_getElem?_getD]
abbrev IsW (k : Int) : Prop := k = 1 ∨ k = 2 ∨ k = 4 ∨ k = 8
def be (k x : Nat) : List Int := (List.range k).map fun i => ((x / 256 ^ (k - 1 - i) % 256 : Nat) : Int)
theorem be_length (k x : Nat) : (be k x).length = k := by simp [be]
theorem be_octs (k x : Nat) : Octs (be k x) := fun z hz => by
  obtain ⟨i, _, rfl⟩ := List.mem_map.1 hz
  omega
def nb (zs : List Int) : Nat := zs.foldl (fun n z => 256 * n + z.toNat) 0
theorem nb_snoc (zs : List Int) (z : Int) : nb (zs ++ [z]) = 256 * nb zs + z.toNat := by simp [nb, List.foldl_append]
theorem be_succ (k x : Nat) : be (k + 1) x = be k (x / 256) ++ [((x % 256 : Nat) : Int)] := by
  unfold be
  rw [List.range_succ, List.map_append, List.map_singleton]
  congr 1
  · refine List.map_congr_left fun i hi => ?_
    have hi := List.mem_range.1 hi
    rw [Nat.div_div_eq_div_mul, show k + 1 - 1 - i = (k - 1 - i) + 1 by omega, Nat.pow_succ, Nat.mul_comm]
  · simp
theorem nb_be (k x : Nat) (h : x < 256 ^ k) : nb (be k x) = x := by
  induction k generalizing x with
  | zero => simp at h; subst h; rfl
  | succ k ih =>
    rw [be_succ, nb_snoc, ih (x / 256) (by rw [Nat.pow_succ] at h; omega), Int.toNat_natCast]
    omega
theorem nb_lt (zs : List Int) (h : Octs zs) : nb zs < 256 ^ zs.length := by
  have key : ∀ (zs : List Int) (n k : Nat), Octs zs → n < 256 ^ k → zs.foldl (fun n z => 256 * n + z.toNat) n < 256 ^ (k + zs.length) := by
    intro zs
    induction zs with
    | nil => intro n k _ hn; simpa using hn
    | cons z zs ih =>
      intro n k ho hn
      have hz := ho.head
      have := ih (256 * n + z.toNat) (k + 1) ho.tail (by rw [Nat.pow_succ]; omega)
      rw [show k + (z :: zs).length = k + 1 + zs.length by simp; omega]
      exact this
  have := key zs 0 0 h (by simp)
  rwa [Nat.zero_add] at this
def rawW (most : Nat) (s : List Int × Int) (ys : List Int) : List Int × Int :=
  if s.2 = 0 then (if most < s.1.length + ys.length then (s.1, 4) else (s.1 ++ ys, 0)) else s
abbrev Fits (k n : Int) : Prop := 0 ≤ n ∧ n < 256 ^ k.toNat
def putW (most : Nat) (s : List Int × Int) (k n : Int) : List Int × Int :=
  if s.2 = 0 then (if IsW k then (if Fits k n then rawW most s (be k.toNat n.toNat) else (s.1, 3)) else (s.1, 2)) else s
structure RS where
  at_ : Nat
  er : Int
  fa : Int
def rawR (zs : List Int) (s : RS) (n : Int) : List Int × RS :=
  if s.er = 0 then
    if n < 0 then ([], ⟨s.at_, 2, s.at_⟩)
    else if (zs.length : Int) - s.at_ < n then ([], ⟨s.at_, 7, zs.length⟩)
    else ((zs.drop s.at_).take n.toNat, ⟨s.at_ + n.toNat, 0, 0⟩)
  else ([], s)
def getR (zs : List Int) (s : RS) (k : Int) : Nat × RS :=
  if s.er = 0 then
    if IsW k then
      if (zs.length : Int) - s.at_ < k then (0, ⟨s.at_, 7, zs.length⟩)
      else if nb ((zs.drop s.at_).take k.toNat) < 9223372036854775808 then (nb ((zs.drop s.at_).take k.toNat), ⟨s.at_ + k.toNat, 0, 0⟩)
      else (0, ⟨s.at_, 3, s.at_⟩)
    else (0, ⟨s.at_, 2, s.at_⟩)
  else (0, s)
def restR (zs : List Int) (s : RS) : Int := if s.er = 0 then (zs.length : Int) - s.at_ else 0
def endR (zs : List Int) (s : RS) : Int × Int := if s.er = 0 ∧ s.at_ < zs.length then (4, s.at_) else (s.er, s.fa)
def RS.Ok (zs : List Int) (s : RS) : Prop := s.at_ ≤ zs.length ∧ (s.er = 0 → s.fa = 0) ∧ (0 ≤ s.er ∧ s.er < 100) ∧ (0 ≤ s.fa ∧ s.fa ≤ zs.length)
theorem RS.ok_fault {zs : List Int} {a : Nat} (h : a ≤ zs.length) (e f : Int) (h0 : 0 < e ∧ e < 100) (h1 : 0 ≤ f ∧ f ≤ zs.length) : RS.Ok zs ⟨a, e, f⟩ := ⟨h, fun h => by have := h0.1; change e = 0 at h; omega, ⟨Int.le_of_lt h0.1, h0.2⟩, h1⟩
theorem RS.ok_none {zs : List Int} {a : Nat} (h : a ≤ zs.length) : RS.Ok zs ⟨a, 0, 0⟩ := ⟨h, fun _ => rfl, ⟨Int.le_refl 0, by show (0 : Int) < 100; decide⟩, ⟨Int.le_refl 0, Int.natCast_nonneg _⟩⟩
theorem RS.Ok.start (zs : List Int) : RS.Ok zs ⟨0, 0, 0⟩ := RS.ok_none (Nat.zero_le _)
theorem RS.Ok.raw {zs : List Int} {s : RS} (h : s.Ok zs) (n : Int) : (rawR zs s n).2.Ok zs := by
  have h1 := h.1
  unfold rawR
  split
  · split
    · exact RS.ok_fault h1 2 s.at_ (by decide) (by omega)
    · split
      · exact RS.ok_fault h1 7 zs.length (by decide) (by omega)
      · exact RS.ok_none (by omega)
  · exact h
theorem RS.Ok.get {zs : List Int} {s : RS} (h : s.Ok zs) (k : Int) : (getR zs s k).2.Ok zs := by
  have h1 := h.1
  unfold getR
  split
  · split
    · rename_i hw
      split
      · exact RS.ok_fault h1 7 zs.length (by decide) (by omega)
      · split
        · exact RS.ok_none (by omega)
        · exact RS.ok_fault h1 3 s.at_ (by decide) (by omega)
    · exact RS.ok_fault h1 2 s.at_ (by decide) (by omega)
  · exact h
structure PV where
  k : Int
  s : Int
  b : Int
  i : Int
  r : Int
  zs : List Int
def PV.zero : PV := ⟨0, 0, 0, 0, 0, []⟩
abbrev U4 (n : Int) : Prop := 0 ≤ n ∧ n ≤ 4294967295
def nums (k : Int) : Int := if k = 1 then 3 else if k = 2 then 2 else if k = 3 ∨ k = 4 ∨ k = 5 then 1 else 0
abbrev May (p : PV) : Prop :=
  (1 ≤ p.k ∧ p.k ≤ 5) ∧ U4 p.s ∧ ((p.k = 1 ∨ p.k = 2) ∧ U4 p.b ∨ ¬ (p.k = 1 ∨ p.k = 2) ∧ p.b = 0) ∧ (p.k = 1 ∧ U4 p.i ∨ ¬ p.k = 1 ∧ p.i = 0) ∧ (p.k = 4 ∧ (1 ≤ p.r ∧ p.r ≤ 15) ∨ ¬ p.k = 4 ∧ p.r = 0) ∧ ((p.k = 1 ∨ p.k = 5) ∧ (1 ≤ p.zs.length ∧ p.zs.length ≤ 65535) ∨ ¬ (p.k = 1 ∨ p.k = 5) ∧ p.zs.length = 0)
def checkP (p : PV) : Int := if May p then 0 else 2
theorem checkP_yes {p : PV} (h : May p) : checkP p = 0 := if_pos h
theorem checkP_no {p : PV} (h : ¬ May p) : checkP p = 2 := if_neg h
theorem nums_le (k : Int) : 0 ≤ nums k ∧ nums k ≤ 3 := by unfold nums; split <;> (try split) <;> (try split) <;> omega
theorem nums_0 (k : Int) : nums k = 0 ↔ ¬ (1 ≤ k ∧ k ≤ 5) := by unfold nums; split <;> (try split) <;> (try split) <;> omega
theorem nums_1 (k : Int) : 1 < nums k ↔ k = 1 ∨ k = 2 := by unfold nums; split <;> (try split) <;> (try split) <;> omega
theorem nums_2 (k : Int) : 2 < nums k ↔ k = 1 := by unfold nums; split <;> (try split) <;> (try split) <;> omega
def body (p : PV) : List Int := be 1 p.k.toNat ++ (be 4 p.s.toNat ++ ((if p.k = 1 ∨ p.k = 2 then be 4 p.b.toNat else []) ++ ((if p.k = 1 then be 4 p.i.toNat else []) ++ ((if p.k = 4 then be 1 p.r.toNat else []) ++ p.zs))))
theorem be_one (x : Nat) : be 1 x = [((x % 256 : Nat) : Int)] := by simp [be]
def bodyLen (p : PV) : Nat := 5 + (if p.k = 1 ∨ p.k = 2 then 4 else 0) + (if p.k = 1 then 4 else 0) + (if p.k = 4 then 1 else 0) + p.zs.length
theorem body_length (p : PV) : (body p).length = bodyLen p := by
  have h0 : ∀ (c : Prop) [Decidable c] (k x : Nat), (if c then be k x else []).length = if c then k else 0 := fun c _ k x => by
    split
    · exact be_length _ _
    · rfl
  unfold body bodyLen
  rw [List.length_append, List.length_append, List.length_append, List.length_append, List.length_append, h0, h0, h0, be_length, be_length]
  omega
theorem bodyLen_nums (p : PV) (h : 1 ≤ p.k ∧ p.k ≤ 5) : (bodyLen p : Int) = 1 + nums p.k * 4 + (if p.k = 4 then 1 else 0) + p.zs.length := by
  obtain ⟨k, s, b, i, r, zs⟩ := p
  dsimp only at h
  unfold bodyLen nums
  dsimp only
  have : k = 1 ∨ k = 2 ∨ k = 3 ∨ k = 4 ∨ k = 5 := by omega
  rcases this with rfl | rfl | rfl | rfl | rfl <;> simp <;> omega
def tk (bs : List Int) : Nat × List Int × Bool := if bs.length < 4 then (0, [], false) else (nb (bs.take 4), bs.drop 4, true)
def tkIf (c : Bool) (st : Nat × List Int × Bool) : Nat × List Int × Bool := if (st.2.2 && c) = true then tk st.2.1 else (0, st.2.1, st.2.2)
def d2 (k : Int) (t : List Int) := tkIf (decide (k = 1 ∨ k = 2)) (tk t)
def d3 (k : Int) (t : List Int) := tkIf (decide (k = 1)) (d2 k t)
def d4 (k : Int) (st : Nat × List Int × Bool) : Int × List Int := if st.2.2 = true ∧ k = 4 ∧ 0 < st.2.1.length then (st.2.1.headD 0, st.2.1.tail) else (0, st.2.1)
def docP (k : Int) (t : List Int) : PV := ⟨k, (tk t).1, (d2 k t).1, (d3 k t).1, (d4 k (d3 k t)).1, (d4 k (d3 k t)).2⟩
def getX : List Int → PV × Int
  | [] => (PV.zero, 6)
  | k :: t => if (d3 k t).2.2 = true ∧ May (docP k t) then (docP k t, 0) else (PV.zero, 6)
theorem tk_short {bs : List Int} (h : bs.length < 4) : tk bs = (0, [], false) := if_pos h
theorem tk_long {bs : List Int} (h : ¬ bs.length < 4) : tk bs = (nb (bs.take 4), bs.drop 4, true) := if_neg h
theorem tk_be {n : Nat} (h : n ≤ 4294967295) (rest : List Int) : tk (be 4 n ++ rest) = (n, rest, true) := by
  have hl := be_length 4 n
  rw [tk_long (by rw [List.length_append, hl]; omega), List.take_append_of_le_length (by omega), List.take_of_length_le (by omega), nb_be 4 n (by rw [show 256 ^ 4 = 4294967296 by decide]; omega), List.drop_append_of_le_length (by omega), List.drop_of_length_le (by omega)]
  rfl
theorem tkIf_no {st : Nat × List Int × Bool} {c : Bool} (h : (st.2.2 && c) = false) : tkIf c st = (0, st.2.1, st.2.2) := if_neg (by rw [h]; decide)
theorem tkIf_yes {st : Nat × List Int × Bool} {c : Bool} (h : (st.2.2 && c) = true) : tkIf c st = tk st.2.1 := if_pos h
theorem tkIf_be {n : Nat} {c : Bool} (h : n ≤ 4294967295) (h0 : c = false → n = 0) (m : Nat) (rest : List Int) : tkIf c (m, (if c = true then be 4 n else []) ++ rest, true) = (n, rest, true) := by
  cases c with
  | false => rw [h0 rfl]; rfl
  | true => exact tk_be h rest
theorem toNat_u4 {n : Int} (h : U4 n) : ((n.toNat : Nat) : Int) = n ∧ n.toNat ≤ 4294967295 := by
  have := h.1; have := h.2
  omega
theorem getX_body {p : PV} (h : May p) : getX (body p) = (p, 0) := by
  obtain ⟨k, s, b, i, r, zs⟩ := p
  obtain ⟨hk, hs, hb, hi, hr, hz⟩ := h
  dsimp only at hk hs hb hi hr hz
  have hK : ((k.toNat % 256 : Nat) : Int) = k := by omega
  have hS := toNat_u4 hs
  have hB : U4 b := by rcases hb with h | h <;> (have := h.2; omega)
  have hI : U4 i := by rcases hi with h | h <;> (have := h.2; omega)
  have hB' := toNat_u4 hB
  have hI' := toNat_u4 hI
  have e1 : tk (be 4 s.toNat ++ ((if k = 1 ∨ k = 2 then be 4 b.toNat else []) ++ ((if k = 1 then be 4 i.toNat else []) ++ ((if k = 4 then be 1 r.toNat else []) ++ zs)))) = (s.toNat, _, true) := tk_be hS.2 _
  have e2 : d2 k (be 4 s.toNat ++ ((if k = 1 ∨ k = 2 then be 4 b.toNat else []) ++ ((if k = 1 then be 4 i.toNat else []) ++ ((if k = 4 then be 1 r.toNat else []) ++ zs)))) = (b.toNat, (if k = 1 then be 4 i.toNat else []) ++ ((if k = 4 then be 1 r.toNat else []) ++ zs), true) := by
    unfold d2
    rw [e1]
    have := tkIf_be (c := decide (k = 1 ∨ k = 2)) hB'.2 (fun h => by have := of_decide_eq_false h; rcases hb with h | h <;> omega) s.toNat ((if k = 1 then be 4 i.toNat else []) ++ ((if k = 4 then be 1 r.toNat else []) ++ zs))
    simp only [decide_eq_true_eq] at this
    exact this
  have e3 : d3 k (be 4 s.toNat ++ ((if k = 1 ∨ k = 2 then be 4 b.toNat else []) ++ ((if k = 1 then be 4 i.toNat else []) ++ ((if k = 4 then be 1 r.toNat else []) ++ zs)))) = (i.toNat, (if k = 4 then be 1 r.toNat else []) ++ zs, true) := by
    unfold d3
    rw [e2]
    have := tkIf_be (c := decide (k = 1)) hI'.2 (fun h => by have := of_decide_eq_false h; rcases hi with h | h <;> omega) b.toNat ((if k = 4 then be 1 r.toNat else []) ++ zs)
    simp only [decide_eq_true_eq] at this
    exact this
  have e4 : d4 k (i.toNat, (if k = 4 then be 1 r.toNat else []) ++ zs, true) = (r, zs) := by
    unfold d4
    by_cases h4 : k = 4
    · rw [if_pos h4, be_one]
      have hR : ((r.toNat % 256 : Nat) : Int) = r := by rcases hr with h | h <;> omega
      rw [hR]
      dsimp only
      rw [if_pos ⟨rfl, h4, by simp⟩]
      rfl
    · rw [if_neg h4]
      dsimp only
      rw [if_neg (fun h => h4 h.2.1)]
      rcases hr with h | h
      · exact absurd h.1 h4
      · rw [h.2]; rfl
  unfold body
  dsimp only
  rw [be_one, hK, List.singleton_append]
  show (if (d3 k _).2.2 = true ∧ May (docP k _) then (docP k _, (0 : Int)) else (PV.zero, 6)) = _
  have ed : docP k (be 4 s.toNat ++ ((if k = 1 ∨ k = 2 then be 4 b.toNat else []) ++ ((if k = 1 then be 4 i.toNat else []) ++ ((if k = 4 then be 1 r.toNat else []) ++ zs)))) = ⟨k, s, b, i, r, zs⟩ := by
    unfold docP
    rw [e3, e2, e1, e4]
    dsimp only
    rw [hS.1, hB'.1, hI'.1]
  rw [ed, e3, if_pos ⟨rfl, hk, hs, hb, hi, hr, hz⟩]
def gtIf (x : List Int) (c : Bool) (s : RS) : Nat × RS := if c = true then getR x s 4 else (0, s)
def g1If (x : List Int) (c : Bool) (s : RS) : Nat × RS := if c = true then getR x s 1 else (0, s)
def rwIf (x : List Int) (c : Bool) (s : RS) : List Int × RS := if c = true then rawR x s (restR x s) else ([], s)
def ga (x : List Int) : Nat × RS := getR x ⟨0, 0, 0⟩ 1
def gb (x : List Int) : Nat × RS := gtIf x (decide (0 < nums (ga x).1)) (ga x).2
def gc (x : List Int) : Nat × RS := gtIf x (decide (1 < nums (ga x).1)) (gb x).2
def gd (x : List Int) : Nat × RS := gtIf x (decide (2 < nums (ga x).1)) (gc x).2
def ge (x : List Int) : Nat × RS := g1If x (decide (((ga x).1 : Int) = 4)) (gd x).2
def gf (x : List Int) : List Int × RS := rwIf x (decide (((ga x).1 : Int) = 1 ∨ ((ga x).1 : Int) = 5)) (ge x).2
def gathP (x : List Int) : PV := ⟨(ga x).1, (gb x).1, (gc x).1, (gd x).1, (ge x).1, (gf x).1⟩
def Beside (x : List Int) (s : RS) (rest : List Int) (ok : Bool) : Prop := (ok = true ∧ ∃ a, s = ⟨a, 0, 0⟩ ∧ a ≤ x.length ∧ rest = x.drop a) ∨ (ok = false ∧ s.er = 7)
theorem get_fault7 (x : List Int) {s : RS} (h : s.er = 7) (k : Int) : getR x s k = (0, s) := if_neg (by rw [h]; decide)
theorem raw_fault7 (x : List Int) {s : RS} (h : s.er = 7) (k : Int) : rawR x s k = ([], s) := if_neg (by rw [h]; decide)
theorem beside_take {x rest : List Int} {s : RS} {ok : Bool} (ho : Octs x) (m : Nat) (h : Beside x s rest ok) (c : Bool) : (gtIf x c s).1 = (tkIf c (m, rest, ok)).1 ∧ Beside x (gtIf x c s).2 (tkIf c (m, rest, ok)).2.1 (tkIf c (m, rest, ok)).2.2 := by
  cases c with
  | false =>
    rw [tkIf_no (Bool.and_false _)]
    exact ⟨rfl, h⟩
  | true =>
    show (getR x s 4).1 = _ ∧ Beside x (getR x s 4).2 _ _
    rcases h with ⟨rfl, a, rfl, ha, rfl⟩ | ⟨rfl, he⟩
    · rw [tkIf_yes rfl]
      dsimp only
      unfold getR
      dsimp only
      rw [if_pos rfl, if_pos (by decide)]
      by_cases hl : (x.drop a).length < 4
      · rw [tk_short hl]
        rw [List.length_drop] at hl
        rw [if_pos (by omega)]
        exact ⟨rfl, .inr ⟨rfl, rfl⟩⟩
      · rw [tk_long hl]
        rw [List.length_drop] at hl
        rw [if_neg (by omega)]
        have hn := nb_lt ((x.drop a).take 4) ((ho.drop a).take 4)
        rw [show ((x.drop a).take 4).length = 4 by rw [List.length_take, List.length_drop]; omega, show 256 ^ 4 = 4294967296 by decide] at hn
        rw [show (4 : Int).toNat = 4 from rfl, if_pos (by omega)]
        refine ⟨rfl, .inl ⟨rfl, a + 4, rfl, by omega, ?_⟩⟩
        show (x.drop a).drop 4 = _
        rw [List.drop_drop]
    · rw [get_fault7 x he, tkIf_no rfl]
      exact ⟨rfl, .inr ⟨rfl, he⟩⟩
theorem may_kind {p : PV} (h : May p) : 1 ≤ p.k ∧ p.k ≤ 5 := h.1
theorem nb_one (y : Int) : nb [y] = y.toNat := by simp [nb]
theorem ga_cons {k : Int} {t : List Int} (ho : Octs (k :: t)) : ((ga (k :: t)).1 : Int) = k ∧ (ga (k :: t)).2 = ⟨1, 0, 0⟩ := by
  have hk := ho.head
  have e : ga (k :: t) = (k.toNat, ⟨1, 0, 0⟩) := by
    unfold ga getR
    dsimp only
    rw [if_pos rfl, if_pos (by decide), if_neg (by rw [List.length_cons]; omega), show (1 : Int).toNat = 1 from rfl, List.drop_zero, List.take_succ_cons, List.take_zero, nb_one, if_pos (by omega)]
  rw [e]
  exact ⟨by show ((k.toNat : Nat) : Int) = k; omega, rfl⟩
theorem endR_fault7 (x : List Int) {s : RS} (h : s.er = 7) : (endR x s).1 = 7 := by
  unfold endR
  rw [if_neg (fun e => by rw [h] at e; exact absurd e.1 (by decide))]
  exact h
theorem endR_at (x : List Int) (a : Nat) : (endR x ⟨a, 0, 0⟩).1 = if a < x.length then 4 else 0 := by
  unfold endR
  dsimp only
  by_cases h : a < x.length
  · rw [if_pos ⟨rfl, h⟩, if_pos h]
  · rw [if_neg (fun e => h e.2), if_neg h]
theorem dec_iff {p q : Prop} [Decidable p] [Decidable q] (h : p ↔ q) : decide p = decide q := by
  by_cases hp : p
  · rw [decide_eq_true hp, decide_eq_true (h.1 hp)]
  · rw [decide_eq_false hp, decide_eq_false (fun hq => hp (h.2 hq))]
theorem gath_getX {x : List Int} (ho : Octs x) : (if (endR x (gf x).2).1 = 0 ∧ May (gathP x) then (gathP x, (0 : Int)) else (PV.zero, 6)) = getX x := by
  match x, ho with
  | [], _ => exact if_neg (fun h => absurd (may_kind h.2).1 (by decide))
  | k :: t, ho =>
    obtain ⟨hk, hs⟩ := ga_cons ho
    have hgk : (gathP (k :: t)).k = k := hk
    have hx : getX (k :: t) = if (d3 k t).2.2 = true ∧ May (docP k t) then (docP k t, (0 : Int)) else (PV.zero, 6) := rfl
    rw [hx]
    by_cases hin : 1 ≤ k ∧ k ≤ 5
    · have hn0 : decide (0 < nums k) = true := decide_eq_true (by have := nums_0 k; have := nums_le k; omega)
      have hn1 : decide (1 < nums k) = decide (k = 1 ∨ k = 2) := dec_iff (nums_1 k)
      have hn2 : decide (2 < nums k) = decide (k = 1) := dec_iff (nums_2 k)
      have b0 : Beside (k :: t) ⟨1, 0, 0⟩ t true := .inl ⟨rfl, 1, rfl, by rw [List.length_cons]; omega, rfl⟩
      have b1 := beside_take ho 0 b0 true
      rw [show tkIf true (0, t, true) = tk t from rfl] at b1
      have eb : gb (k :: t) = gtIf (k :: t) true ⟨1, 0, 0⟩ := by unfold gb; rw [hk, hs, hn0]
      rw [← eb] at b1
      have b2 := beside_take ho (tk t).1 b1.2 (decide (k = 1 ∨ k = 2))
      have ec : gc (k :: t) = gtIf (k :: t) (decide (k = 1 ∨ k = 2)) (gb (k :: t)).2 := by unfold gc; rw [hk, hn1]
      rw [← ec, show tkIf (decide (k = 1 ∨ k = 2)) ((tk t).1, (tk t).2.1, (tk t).2.2) = d2 k t from rfl] at b2
      have b3 := beside_take ho (d2 k t).1 b2.2 (decide (k = 1))
      have ed : gd (k :: t) = gtIf (k :: t) (decide (k = 1)) (gc (k :: t)).2 := by unfold gd; rw [hk, hn2]
      rw [← ed, show tkIf (decide (k = 1)) ((d2 k t).1, (d2 k t).2.1, (d2 k t).2.2) = d3 k t from rfl] at b3
      have ee : ge (k :: t) = g1If (k :: t) (decide (k = 4)) (gd (k :: t)).2 := by unfold ge; rw [hk]
      have ef : gf (k :: t) = rwIf (k :: t) (decide (k = 1 ∨ k = 5)) (ge (k :: t)).2 := by unfold gf; rw [hk]
      have eP : gathP (k :: t) = ⟨k, (tk t).1, (d2 k t).1, (d3 k t).1, (ge (k :: t)).1, (gf (k :: t)).1⟩ := by
        unfold gathP
        rw [hk, b1.1, b2.1, b3.1]
      have eD : docP k t = ⟨k, (tk t).1, (d2 k t).1, (d3 k t).1, (d4 k (d3 k t)).1, (d4 k (d3 k t)).2⟩ := rfl
      rcases b3.2 with ⟨hok, a, hsa, hal, hrest⟩ | ⟨hok, her⟩
      · have hlen : (d3 k t).2.1.length = (k :: t).length - a := by rw [hrest, List.length_drop]
        by_cases h4 : k = 4
        · subst h4
          by_cases hl : (d3 4 t).2.1.length = 0
          · have e4 : ge (4 :: t) = (0, ⟨a, 7, (4 :: t).length⟩) := by
              rw [ee, hsa]
              unfold g1If getR
              rw [decide_eq_true rfl]
              dsimp only
              rw [if_pos rfl, if_pos rfl, if_pos (by decide), if_pos (by omega)]
            have e5 : gf (4 :: t) = ([], ⟨a, 7, (4 :: t).length⟩) := by
              rw [ef, e4]
              rfl
            have e6 : d4 4 (d3 4 t) = (0, (d3 4 t).2.1) := if_neg (fun h => by omega)
            rw [e5, if_neg (fun h => by rw [endR_fault7 _ rfl] at h; exact absurd h.1 (by decide)), if_neg (fun h => by
              have hm := h.2
              rw [eD, e6] at hm
              rcases hm.2.2.2.2.1 with h | h
              · exact absurd (show (1 : Int) ≤ 0 from h.2.1) (by decide)
              · exact absurd rfl h.1)]
          · obtain ⟨y, ys, hy⟩ : ∃ y ys, (d3 4 t).2.1 = y :: ys := by
              cases hx : (d3 4 t).2.1 with
              | nil => rw [hx] at hl; exact absurd rfl hl
              | cons y ys => exact ⟨y, ys, rfl⟩
            have hyo : 0 ≤ y ∧ y < 256 := by
              have := ho.drop a
              rw [← hrest, hy] at this
              exact this.head
            have e4 : ge (4 :: t) = (y.toNat, ⟨a + 1, 0, 0⟩) := by
              rw [ee, hsa]
              unfold g1If getR
              rw [decide_eq_true rfl]
              dsimp only
              rw [if_pos rfl, if_pos rfl, if_pos (by decide), if_neg (by omega), ← hrest, hy, show (1 : Int).toNat = 1 from rfl, List.take_succ_cons, List.take_zero, nb_one, if_pos (by omega)]
            have e5 : gf (4 :: t) = ([], ⟨a + 1, 0, 0⟩) := by
              rw [ef, e4]
              rfl
            have e6 : d4 4 (d3 4 t) = (y, ys) := by
              unfold d4
              rw [if_pos ⟨hok, rfl, by omega⟩, hy]
              rfl
            rw [e5, endR_at, eP, eD, e4, e5, e6]
            dsimp only
            rw [show ((y.toNat : Nat) : Int) = y by omega]
            have hyl : ys.length + 1 = (4 :: t).length - a := by rw [← hlen, hy]; rfl
            by_cases hz : a + 1 < (4 :: t).length
            · rw [if_pos hz, if_neg (fun h => absurd h.1 (by decide)), if_neg (fun h => by
                rcases h.2.2.2.2.2.2 with h | h
                · exact absurd (show (4 : Int) = 1 ∨ (4 : Int) = 5 from h.1) (by decide)
                · have := h.2; dsimp only at this; omega)]
            · rw [if_neg hz]
              obtain rfl := List.length_eq_zero_iff.1 (show ys.length = 0 by omega)
              simp only [hok, true_and]
        · have e4 : ge (k :: t) = (0, ⟨a, 0, 0⟩) := by
            rw [ee, hsa, decide_eq_false h4]
            rfl
          have e6 : d4 k (d3 k t) = (0, (d3 k t).2.1) := if_neg (fun h => h4 h.2.1)
          by_cases h15 : k = 1 ∨ k = 5
          · have e5 : gf (k :: t) = ((d3 k t).2.1, ⟨(k :: t).length, 0, 0⟩) := by
              rw [ef, e4, decide_eq_true h15]
              unfold rwIf rawR restR
              dsimp only
              rw [if_pos rfl, if_pos rfl, if_pos rfl, if_neg (by omega), if_neg (by omega), ← hrest, List.take_of_length_le (by omega)]
              congr 2
              omega
            rw [e5, endR_at, if_neg (Nat.lt_irrefl _), eP, eD, e4, e5, e6]
            simp only [hok, true_and]
            rfl
          · have e5 : gf (k :: t) = ([], ⟨a, 0, 0⟩) := by
              rw [ef, e4, decide_eq_false h15]
              rfl
            rw [e5, endR_at, eP, eD, e4, e5, e6]
            dsimp only
            by_cases hz : a < (k :: t).length
            · rw [if_pos hz, if_neg (fun h => absurd h.1 (by decide)), if_neg (fun h => by
                rcases h.2.2.2.2.2.2 with h | h
                · exact h15 h.1
                · have := h.2; dsimp only at this; omega)]
            · rw [if_neg hz]
              rw [List.length_eq_zero_iff.1 (show (d3 k t).2.1.length = 0 by omega)]
              simp only [hok, true_and]
              rfl
      · have e4 : (ge (k :: t)).2 = (gd (k :: t)).2 := by
          rw [ee]
          unfold g1If
          split
          · rw [get_fault7 _ her]
          · rfl
        have e5 : (gf (k :: t)).2 = (gd (k :: t)).2 := by
          rw [ef, e4]
          unfold rwIf
          split
          · rw [raw_fault7 _ her]
          · rfl
        rw [e5, endR_fault7 _ her, if_neg (fun h => absurd h.1 (by decide)), if_neg (fun h => by rw [hok] at h; exact absurd h.1 (by decide))]
    · rw [if_neg (fun h => hin (by have := may_kind h.2; rw [hgk] at this; exact this)), if_neg (fun h => hin (may_kind h.2))]
def bx (x y : Int) : Int := ((x.toNat ^^^ y.toNat : Nat) : Int)
theorem bx_oct {x y : Int} (hx : 0 ≤ x ∧ x < 256) (hy : 0 ≤ y ∧ y < 256) : 0 ≤ bx x y ∧ bx x y < 256 := by
  have h : x.toNat ^^^ y.toNat < 2 ^ 8 := Nat.xor_lt_two_pow (by omega) (by omega)
  unfold bx
  omega
def xl (xs ys : List Int) : List Int := List.zipWith bx xs ys
def mix (k : Nat) (xs ys : List Int) : List Int := (List.range xs.length).map fun j => if j < k then bx (xs[j]?.getD 0) (ys[j]?.getD 0) else xs[j]?.getD 0
theorem mix_length (k : Nat) (xs ys : List Int) : (mix k xs ys).length = xs.length := by simp [mix]
theorem mix_getD {k : Nat} {xs ys : List Int} {j : Nat} (hj : j < xs.length) : (mix k xs ys)[j]?.getD 0 = if j < k then bx (xs[j]?.getD 0) (ys[j]?.getD 0) else xs[j]?.getD 0 := by
  unfold mix
  rw [List.getElem?_map, List.getElem?_range hj]
  rfl
theorem mix_octs {xs ys : List Int} (hx : Octs xs) (hy : Octs ys) (k : Nat) : Octs (mix k xs ys) := fun z hz => by
  obtain ⟨j, hj, rfl⟩ := List.mem_map.1 hz
  split
  · exact bx_oct (hx.getD j) (hy.getD j)
  · exact hx.getD j
def n8 (a b c d e f g h : Nat) : Nat := a + 256 * b + 65536 * c + 16777216 * d + 4294967296 * e + 1099511627776 * f + 281474976710656 * g + 72057594037927936 * h
structure Turns (b : Nat) (W W' : World) : Prop where
  below : Below b W W'
  other : ∀ k, k ≠ b → k < W.heap.size → W'.heap[k]? = W.heap[k]?
theorem Turns.refl (b : Nat) (W : World) : Turns b W W := ⟨Below.refl _ _, fun _ _ _ => rfl⟩
theorem Turns.trans {b : Nat} {A B C : World} (h : Turns b A B) (k : Turns b B C) : Turns b A C := ⟨h.below.trans k.below, fun i hi hl => (k.other i hi (Nat.lt_of_lt_of_le hl h.below.size)).trans (h.other i hi hl)⟩
theorem Turns.of_below {b : Nat} {A B : World} (hb : b ≤ A.heap.size) (h : Below A.heap.size A B) : Turns b A B := ⟨h.mono hb, fun k _ hl => h.block k hl⟩
theorem Turns.setCell {b : Nat} {A B : World} (h : Turns b A B) (o : Nat) (v : Value) : Turns b A (B.setCell ⟨b, o, none⟩ v) :=
  ⟨h.below.setCell (p := ⟨b, o, none⟩) (Nat.le_refl _) v, fun k hk hl => (Below.heap_setCell _ _ _ _ (by show k ≠ b; exact hk)).trans (h.other k hk hl)⟩
theorem Turns.drew {b : Nat} {A B : World} (h : Turns b A B) : Turns b A B.drew := ⟨h.below.drew, h.other⟩
theorem Seg.turns {lo b g o len cap : Nat} {A B : World} {zs : List Int} (h : Seg lo A (.slice (some ⟨g, o, none⟩) len cap) zs) (ht : Turns b A B) (hg : g ≠ b) : Seg lo B (.slice (some ⟨g, o, none⟩) len cap) zs := by
  obtain ⟨hw, a', cap', e, h1, h3⟩ := h
  refine ⟨hw, a', cap', e, h1, fun hz => ?_⟩
  obtain ⟨b', off', e1, e2, e3, e4, e5⟩ := h3 hz
  simp only [Value.slice.injEq] at e
  obtain ⟨ea, _, _⟩ := e
  rw [e1] at ea
  simp only [Option.some.injEq, Addr.mk.injEq] at ea
  obtain ⟨rfl, rfl, _⟩ := ea
  have hk := ht.other g hg e3
  exact ⟨g, o, e1, e2, Nat.lt_of_lt_of_le e3 ht.below.size, fun j hj => (World.cell?_of_block (a := ⟨g, o + j, none⟩) hk).trans (e4 j hj), fun j hj => (World.frozen?_of_block (a := ⟨g, o + j, none⟩) hk).trans (e5 j hj)⟩
theorem turns2 (g : Nat) (W : World) (u v : Value) : Turns g W ((W.setCell ⟨g, 0, none⟩ u).setCell ⟨g, 1, none⟩ v) := ((Turns.refl g W).setCell 0 u).setCell 1 v
theorem Turns.setCells {b : Nat} {A : World} : ∀ (vs : List Value) (o : Nat) {B : World}, Turns b A B → Turns b A (B.setCells b o vs)
  | [], _, _, h => h
  | v :: vs, o, _, h => Turns.setCells vs (o + 1) (h.setCell o v)
structure Wrote (b o n : Nat) (W W' : World) : Prop where
  turns : Turns b W W'
  cells : ∀ j, j < o ∨ o + n ≤ j → W'.cell? ⟨b, j, none⟩ = W.cell? ⟨b, j, none⟩ ∧ W'.frozen? ⟨b, j, none⟩ = W.frozen? ⟨b, j, none⟩
theorem Wrote.refl (b o n : Nat) (W : World) : Wrote b o n W W := ⟨Turns.refl _ _, fun _ _ => ⟨rfl, rfl⟩⟩
theorem Wrote.trans {b o n : Nat} {A B C : World} (h : Wrote b o n A B) (k : Wrote b o n B C) : Wrote b o n A C :=
  ⟨h.turns.trans k.turns, fun j hj => ⟨(k.cells j hj).1.trans (h.cells j hj).1, (k.cells j hj).2.trans (h.cells j hj).2⟩⟩
theorem Wrote.of_below {b o n : Nat} {A B : World} (hb : b < A.heap.size) (h : Below A.heap.size A B) : Wrote b o n A B :=
  ⟨Turns.of_below (Nat.le_of_lt hb) h, fun _ _ => ⟨h.cell hb, h.frozen hb⟩⟩
theorem Wrote.setCells {b o n : Nat} {A B : World} (h : Wrote b o n A B) (vs : List Value) (i : Nat) (h1 : o ≤ i) (h2 : i + vs.length ≤ o + n) : Wrote b o n A (B.setCells b i vs) :=
  ⟨h.turns.setCells vs i, fun j hj => ⟨(World.cell?_setCells_out b vs i B _ (fun _ _ => by show j < i ∨ i + vs.length ≤ j; omega)).trans (h.cells j hj).1, (World.frozen?_setCells b vs i B _).trans (h.cells j hj).2⟩⟩
theorem Wrote.setCell {b o n : Nat} {A B : World} (h : Wrote b o n A B) (v : Value) (i : Nat) (h1 : o ≤ i) (h2 : i < o + n) : Wrote b o n A (B.setCell ⟨b, i, none⟩ v) := h.setCells [v] i h1 (by simp; omega)
theorem Wrote.drew {b o n : Nat} {A B : World} (h : Wrote b o n A B) : Wrote b o n A B.drew := ⟨h.turns.drew, h.cells⟩
theorem Byt.turns {lo b g o len cap : Nat} {A B : World} {zs : List Int} (h : Byt lo A (.slice (some ⟨g, o, none⟩) len cap) zs) (ht : Turns b A B) (hg : g ≠ b) : Byt lo B (.slice (some ⟨g, o, none⟩) len cap) zs := by
  obtain ⟨hw, a', cap', e, h1, h3⟩ := h
  refine ⟨hw, a', cap', e, h1, fun hz => ?_⟩
  obtain ⟨b', off', e1, e2, e3, e4, e5⟩ := h3 hz
  simp only [Value.slice.injEq] at e
  obtain ⟨ea, _, _⟩ := e
  rw [e1] at ea
  simp only [Option.some.injEq, Addr.mk.injEq] at ea
  obtain ⟨rfl, rfl, _⟩ := ea
  have hk := ht.other g hg e3
  exact ⟨g, o, e1, e2, Nat.lt_of_lt_of_le e3 ht.below.size, fun j hj => (World.cell?_of_block (a := ⟨g, o + j, none⟩) hk).trans (e4 j hj), fun j hj => (World.frozen?_of_block (a := ⟨g, o + j, none⟩) hk).trans (e5 j hj)⟩
theorem Byt.of_cells {lo b o c : Nat} {W : World} {zs : List Int} {n : Nat} (hz : Octs zs) (hn : zs.length = n) (hc : n ≤ c) (hl : lo ≤ b) (hb : b < W.heap.size) (h : ∀ j, j < n → W.cell? ⟨b, o + j, none⟩ = some (.int .u8 (zs[j]?.getD 0)) ∧ W.frozen? ⟨b, o + j, none⟩ = false) : Byt lo W (.slice (some ⟨b, o, none⟩) n c) zs := by
  subst hn
  exact ⟨hz, _, _, rfl, hc, fun _ => ⟨b, o, rfl, hl, hb, fun j hj => (h j hj).1, fun j hj => (h j hj).2⟩⟩
def bytes8 (n : Nat) : Array Value := #[.int .u8 (n % 256 : Nat), .int .u8 (n / 256 % 256 : Nat), .int .u8 (n / 65536 % 256 : Nat), .int .u8 (n / 16777216 % 256 : Nat), .int .u8 (n / 4294967296 % 256 : Nat), .int .u8 (n / 1099511627776 % 256 : Nat), .int .u8 (n / 281474976710656 % 256 : Nat), .int .u8 (n / 72057594037927936 % 256 : Nat)]
theorem strOfNums_toList (xs : List Int) : (strOfNums xs).toList = xs.map fun n => UInt8.ofNat n.toNat := by
  rw [← strOfNums_data]
  exact ByteArray.toList_eq _
theorem strOfNums_inj {xs ys : List Int} (hx : Octs xs) (hy : Octs ys) : (xs.map fun n => UInt8.ofNat n.toNat) = (ys.map fun n => UInt8.ofNat n.toNat) ↔ xs = ys := by
  constructor
  · intro h
    induction xs generalizing ys with
    | nil => cases ys with
      | nil => rfl
      | cons y ys => simp at h
    | cons x xs ih =>
      cases ys with
      | nil => simp at h
      | cons y ys =>
        simp only [List.map_cons, List.cons.injEq] at h
        have h1 := hx.head
        have h2 := hy.head
        have e := congrArg UInt8.toNat h.1
        rw [UInt8.toNat_ofNat_of_lt' (by show x.toNat < 256; omega), UInt8.toNat_ofNat_of_lt' (by show y.toNat < 256; omega)] at e
        rw [ih hx.tail hy.tail h.2, show x = y by omega]
  · intro h; rw [h]
set_option maxRecDepth 100000 in
theorem sameb_any {lo lo' : Nat} {a b : Option Addr} {la ca lb cb : Nat} {xs ys : List Int} {w : World} (ha : Byt lo w (.slice a la ca) xs) (hb : Byt lo' w (.slice b lb cb) ys) :
    Calls Try.prog 13 #[.slice a la ca, .slice b lb cb] w fun e w' => e = .returned (.bool (decide (xs = ys))) ∧ Below w.heap.size w w' := by
  have h1 := run_str ha
  have h2 := run_str hb
  have h3 : ((strOfNums xs).toList == (strOfNums ys).toList) = decide (xs = ys) := by
    rw [strOfNums_toList, strOfNums_toList, Bool.eq_iff_iff, beq_iff_eq, decide_eq_true_iff]
    exact strOfNums_inj ha.words hb.words
  go_enter Try.func13, Try.ntmps13
  go_wp2
  go_ret
  exact ⟨rfl, Below.refl _ _⟩
def cS (x : Nat) : Nat := x / 2 ^^^ (if x % 2 = 1 then 3988292384 else 0)
def cSn : Nat → Nat → Nat
  | 0, x => x
  | n + 1, x => cS (cSn n x)
theorem cS_lt {x : Nat} (h : x < 4294967296) : cS x < 4294967296 := by
  have : x / 2 ^^^ (if x % 2 = 1 then 3988292384 else 0) < 2 ^ 32 := Nat.xor_lt_two_pow (by omega) (by split <;> omega)
  unfold cS
  omega
theorem cSn_lt {x : Nat} (h : x < 4294967296) : ∀ n, cSn n x < 4294967296
  | 0 => h
  | n + 1 => cS_lt (cSn_lt h n)
def cT (k : Nat) : Nat := cSn 8 k
def cStep (f : Nat → Nat) (r : Nat) (z : Int) : Nat := r / 256 ^^^ f ((r % 256) ^^^ z.toNat)
def cReg (f : Nat → Nat) (r : Nat) (zs : List Int) : Nat := zs.foldl (cStep f) r
theorem cReg_snoc (f : Nat → Nat) (r : Nat) (zs : List Int) (z : Int) : cReg f r (zs ++ [z]) = cStep f (cReg f r zs) z := by unfold cReg; rw [List.foldl_append]; rfl
theorem cReg_cons (f : Nat → Nat) (r : Nat) (z : Int) (zs : List Int) : cReg f r (z :: zs) = cReg f (cStep f r z) zs := rfl
theorem xor_ones {x : Nat} (h : x < 4294967296) : x ^^^ 4294967295 = 4294967295 - x := by
  refine Nat.eq_of_testBit_eq fun i => ?_
  have h1 : (4294967295 - x).testBit i = (decide (i < 32) && !x.testBit i) := by
    have := Nat.testBit_two_pow_sub_succ (n := 32) h i
    rwa [show 2 ^ 32 - (x + 1) = 4294967295 - x by omega] at this
  have h2 : (4294967295 : Nat).testBit i = decide (i < 32) := by
    have := Nat.testBit_two_pow_sub_one 32 i
    rwa [show (2 : Nat) ^ 32 - 1 = 4294967295 by decide] at this
  rw [Nat.testBit_xor, h1, h2]
  by_cases hi : i < 32
  · simp [hi]
  · have h3 : x.testBit i = false := Nat.testBit_lt_two_pow (Nat.lt_of_lt_of_le h (by
      have : (2 : Nat) ^ 32 ≤ 2 ^ i := Nat.pow_le_pow_right (by omega) (by omega)
      omega))
    simp [hi, h3]
def cSum (zs : List Int) : Nat := 4294967295 - cReg cT 4294967295 zs
def le4 (s : Nat) : List Int := [((s % 256 : Nat) : Int), ((s / 256 % 256 : Nat) : Int), ((s / 65536 % 256 : Nat) : Int), ((s / 16777216 % 256 : Nat) : Int)]
theorem le4_octs (s : Nat) : Octs (le4 s) := by
  refine Octs.cons (by omega) (Octs.cons (by omega) (Octs.cons (by omega) (Octs.cons (by omega) Octs.nil)))
end Go.Proofs.Ytedjicimgalneaa
