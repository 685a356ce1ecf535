/-
  Lists that a call makes word by word; copies.
-/
import Derived.Test.YtjoakmhebcfeaaaWiden
import Derived.OwnWalk
namespace Go.Proofs.Ytjoakmhebcfeaaa
open Go.RowKit

/-- A list of the call's own, in a block from lo on. -/
def Own (lo : Nat) (W : World) (v : Value) (zs : List Int) : Prop := W.ownsRow lo 41 1 v zs.length (zs.map (Value.int .u64)) ∧ Words zs
theorem own_nil (lo : Nat) (W : World) : Own lo W (.slice none 0 0) [] := ⟨World.ownsRow_nil W lo _ _, Words.nil⟩
theorem own_seg {lo : Nat} {W : World} {v : Value} {zs : List Int} (h : Own lo W v zs) : ∃ a cap, v = .slice a zs.length cap ∧ Seg lo W (.slice a zs.length cap) zs := by
  obtain ⟨⟨h1, h2⟩, hw⟩ := h
  rcases h2 with ⟨rfl, h0⟩ | ⟨g, cap, cur, rfl, hg, hh, hc, hm, hs, ht⟩
  · obtain rfl : zs = [] := List.length_eq_zero_iff.1 h0
    exact ⟨none, 0, rfl, Seg.nil _ _⟩
  · have hsz : g < W.heap.size := (Array.getElem?_eq_some_iff.1 hh).1
    refine ⟨_, _, rfl, hw, _, _, rfl, hc, fun _ => ⟨g, 0, rfl, hg, hsz, fun j hj => ?_, fun j _ => frozen_of_heap hh _⟩⟩
    rw [cell_of_heap hh, Nat.zero_add]
    have e : (cur.toList.take (zs.length * 1))[j]? = (zs.map (Value.int .u64))[j]? := by rw [ht]
    rw [List.getElem?_take_of_lt (by omega), Array.getElem?_toList] at e
    rw [e]
    simp [hj]
theorem own_append {lo : Nat} {w : World} {v : Value} {zs : List Int} (h : Own lo w v zs) (x : Int) (hx : 0 ≤ x ∧ x < 18446744073709551616) (hl : zs.length ≤ 1000000) (hlo : lo ≤ w.heap.size) :
    ∃ a' cap' w', (Builtin.append_ #[23, 23] 23 #[v, .slice (some ⟨w.heap.size, 0, none⟩) 1 1]).run Try.prog (w.alloc (.cells #[.int .u64 x] 41)) = .ok (.slice a' (zs.length + 1) cap') w' ∧ Own lo w' (.slice a' (zs.length + 1) cap') (zs ++ [x]) ∧ Below lo w w' := by
  obtain ⟨i0, hi, hz0, hz1, hz2⟩ := info_parts infoU64
  have hb : Below lo w (w.alloc (.cells #[.int .u64 x] 41)) := (Below.refl _ _).alloc hlo _
  obtain ⟨v', w', hr, hown, hg, _⟩ := run_append_own (P := Try.prog) (w.alloc (.cells #[.int .u64 x] 41)) lo 23 23 41 i0 (.int .u64 0) 1 8 Try.underlying23 hi hz0 hz1 hz2 rfl (by decide)
    v zs.length (zs.map (Value.int .u64)) (h.1.alloc _) ⟨w.heap.size, 0, none⟩ 1 1 [.int .u64 x] rfl
    (fun j u hj => by
      obtain rfl : j = 0 := by
        cases j with
        | zero => rfl
        | succ j => simp at hj
      obtain rfl : Value.int .u64 x = u := by simpa using hj
      rw [Addr.add_lit]
      exact cell_of_heap (World.alloc_heap_new w _) 0)
    (fun u hu => by obtain rfl : u = .int .u64 x := by simpa using hu
                    rfl) (by unfold maxLen; omega) (by omega) (by simp; omega)
  have hlen : (zs ++ [x]).length = zs.length + 1 := by simp
  have ho : Own lo w' v' (zs ++ [x]) := by
    refine ⟨?_, h.2.append (Words.cons hx Words.nil)⟩
    rw [hlen, List.map_append]
    exact hown
  have hbw : Below lo w w' := hb.grown hg (by simp; omega) (fun k hk => (h.1.lt k hk).1)
  obtain ⟨a', cap', e, _⟩ := own_seg ho
  rw [hlen] at e
  subst e
  exact ⟨a', cap', w', hr, ho, hbw⟩
/-- append(Nat{}, n...): a copy. -/
theorem append_copy {lo : Nat} {a : Option Addr} {cap : Nat} {zs : List Int} {w : World} (h : Seg lo w (.slice a zs.length cap) zs) (hl : zs.length ≤ 1000000) :
    ∃ a' cap' w', (Builtin.append_ #[23, 23] 23 #[.slice (some ⟨w.heap.size, 0, none⟩) 0 0, .slice a zs.length cap]).run Try.prog (w.alloc (.cells #[] 41)) = .ok (.slice a' zs.length cap') w' ∧ Seg w.heap.size w' (.slice a' zs.length cap') zs ∧ Below w.heap.size w w' := by
  have hb : Below w.heap.size w (w.alloc (.cells #[] 41)) := (Below.refl _ _).alloc (Nat.le_refl _) _
  by_cases hz : zs = []
  · subst hz
    exact ⟨_, _, _, append_none _ 0 0 (Nat.le_refl _) a cap _ _, Seg.empty _ _ _ _, hb⟩
  · obtain ⟨i0, hi, hz0, hz1, hz2⟩ := info_parts infoU64
    have h' := h.below hb
    obtain ⟨b, off, rfl, e2, e3⟩ := h.row (List.length_pos_iff.2 hz)
    have h0 : (w.alloc (.cells #[] 41)).ownsRow w.heap.size 41 1 (.slice (some ⟨w.heap.size, 0, none⟩) 0 0) 0 [] := ⟨rfl, .inr ⟨_, 0, #[], rfl, Nat.le_refl _, World.alloc_heap_new w _, Nat.le_refl _, by unfold maxLen; omega, rfl, rfl⟩⟩
    obtain ⟨v', w', hr, hown, hg, _⟩ := run_append_own (P := Try.prog) (w.alloc (.cells #[] 41)) w.heap.size 23 23 41 i0 (.int .u64 0) 1 8 Try.underlying23 hi hz0 hz1 hz2 rfl (by decide)
      _ 0 [] h0 ⟨b, off, none⟩ zs.length cap (zs.map (Value.int .u64)) (by simp)
      (fun j u hj => by
        rw [List.getElem?_map] at hj
        obtain ⟨z, hz', rfl⟩ := Option.map_eq_some_iff.1 hj
        have hjl : j < zs.length := (List.getElem?_eq_some_iff.1 hz').1
        have := (h'.cell (j := j) hjl).1
        rw [hz'] at this
        rw [Addr.add_lit]
        exact this)
      (fun u hu => by obtain ⟨z, _, rfl⟩ := List.mem_map.1 hu; rfl) (by unfold maxLen; omega) (by omega) (by simp)
    have ho : Own w.heap.size w' v' zs := by
      refine ⟨?_, h.words⟩
      rw [Nat.zero_add, List.nil_append] at hown
      exact hown
    have hbw : Below w.heap.size w w' := hb.grown hg (by simp) (fun k hk => (h0.lt k hk).1)
    obtain ⟨a', cap', rfl, hs⟩ := own_seg ho
    exact ⟨a', cap', w', hr, hs, hbw⟩

set_option maxRecDepth 100000 in
set_option maxHeartbeats 400000 in
/-- CopyNat(n). -/
theorem copy_any {lo : Nat} {a : Option Addr} {cap : Nat} {zs : List Int} {w : World} (h : Seg lo w (.slice a zs.length cap) zs) (hl : zs.length ≤ 1000000) :
    Calls Try.prog 37 #[.slice a zs.length cap] w fun e w' => ∃ a' cap', e = .returned (.slice a' zs.length cap') ∧ Seg w.heap.size w' (.slice a' zs.length cap') zs ∧ Below w.heap.size w w' := by
  obtain ⟨a', cap', w', hap, hs, hb⟩ := append_copy h hl
  go_enter Try.func37, Try.ntmps37
  go_wp2_with (at_builtin; refine Lib.wpList_append_run _ rfl _ _ _ _ rfl _ _ rfl rfl _ _ hap ?_)
  go_ret
  exact ⟨_, _, rfl, hs, hb⟩

theorem Seg.above {lo : Nat} {W W' : World} {sv : Value} {zs : List Int} (h : Seg lo W sv zs) (hk : ∀ k, lo ≤ k → W'.heap[k]? = W.heap[k]?) (hs : W.heap.size ≤ W'.heap.size) : Seg lo W' sv zs := by
  obtain ⟨hw, a, cap, e, h1, h3⟩ := h
  refine ⟨hw, a, cap, e, h1, fun hz => ?_⟩
  obtain ⟨b, off, e1, e2, e3, e4, e5⟩ := h3 hz
  exact ⟨b, off, e1, e2, by omega, fun j hj => (World.cell?_of_block (a := ⟨b, off + j, none⟩) (hk b e2)).trans (e4 j hj), fun j hj => (World.frozen?_of_block (a := ⟨b, off + j, none⟩) (hk b e2)).trans (e5 j hj)⟩
theorem Seg.block {lo : Nat} {W : World} {a : Option Addr} {n cap : Nat} {zs : List Int} (h : Seg lo W (.slice a n cap) zs) : zs ≠ [] → ∀ b o, a = some ⟨b, o, none⟩ → b < W.heap.size := fun hz b o e => by
  obtain ⟨hl, _⟩ := h.len
  obtain ⟨b', o', e1, _, e3⟩ := h.row (by rw [hl]; exact List.length_pos_iff.2 hz)
  rw [e] at e1
  simp only [Option.some.injEq, Addr.mk.injEq] at e1
  omega
theorem xor_word (x : Int) (h : 0 ≤ x ∧ x < 18446744073709551616) : 0 ≤ bits .xor .u64 x 2779096485 ∧ bits .xor .u64 x 2779096485 < 18446744073709551616 := by
  obtain ⟨n, rfl⟩ := Int.eq_ofNat_of_zero_le h.1
  have e := bits_xor_u64_nat n 2779096485 (by omega) (by decide)
  have hl : n ^^^ 2779096485 < 2 ^ 64 := Nat.xor_lt_two_pow (by omega) (by decide)
  rw [show ((2779096485 : Nat) : Int) = 2779096485 from rfl] at e
  rw [e]
  omega

set_option maxRecDepth 100000 in
set_option maxHeartbeats 1000000 in
/-- OverNat(n): other words in n's own memory; nothing below it turns. -/
theorem over_fr {lo : Nat} {a : Option Addr} {cap : Nat} {zs : List Int} {w : World} (h : Seg lo w (.slice a zs.length cap) zs) (hl : zs.length ≤ 1000000) (hi : Nat) (hr : zs ≠ [] → ∀ b o, a = some ⟨b, o, none⟩ → b < hi) :
    Calls Try.prog 19 #[.slice a zs.length cap] w fun e w' => e = .returned (.tuple #[]) ∧ Below lo w w' ∧ ∀ k, hi ≤ k → w'.heap[k]? = w.heap[k]? := by
  obtain ⟨len, hlen⟩ : ∃ len, zs.length = len := ⟨_, rfl⟩
  have hr' : 0 < len → ∀ b o, a = some ⟨b, o, none⟩ → b < hi := fun h0 => hr (List.length_pos_iff.1 (by omega))
  rw [hlen] at h hl ⊢
  clear hlen hr
  have hsz : Below lo w w := Below.refl _ _
  go_enter Try.func19, Try.ntmps19
  go_wp2
  go_loopw [2] (fun i wr => ∃ (k : Nat) (ss : List Int), k ≤ len ∧ i = .int .i64 k ∧ Seg lo wr (.slice a len cap) ss ∧ Below lo w wr ∧ Hid (∀ k, hi ≤ k → wr.heap[k]? = w.heap[k]?)) (fun i _ => len - (intOf i).toNat)
  case atStart => exact ⟨0, zs, Nat.zero_le _, rfl, h, hsz, fun _ _ => rfl⟩
  case round =>
    obtain ⟨k, ss, hk, rfl, hss, hb, HH⟩ := hrel
    by_cases hkl : k < len
    · obtain ⟨b, off, rfl, hlo, _⟩ := hss.row (by omega)
      have hbh := hr' (by omega) b off rfl
      clear hr'
      obtain ⟨hc, hf⟩ := hss.cell (j := k) hkl
      have hw := hss.words.getD k
      have HS := hide (hss.set (k := k) (by rw [← hss.len.1]; exact hkl) (x := bits .xor .u64 (ss[k]?.getD 0) 2779096485) (xor_word _ hw))
      have hki : (k : Int) < (len : Int) := by omega
      clear hw
      generalize ss[k]?.getD 0 = x at *
      go_wp2
      exact ⟨⟨k + 1, _, by omega, by go_num, HS.out, hb.setCell (p := ⟨b, off + k, none⟩) hlo _, fun j hj => (Below.heap_setCell _ _ _ _ (by show j ≠ b; omega)).trans (HH.out j hj)⟩, by simp [intOf]; omega⟩
    · go_wp2
      go_end0
      exact ⟨rfl, hb, HH.out⟩
end Go.Proofs.Ytjoakmhebcfeaaa
