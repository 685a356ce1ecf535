/-
  Joined: DPc DPd.
-/
import Derived.Test.YtfcpaejeppedoaaDoorJRDiv
import Derived.Test.YtfcpaejeppedoaaDoorJQLong
import Derived.Test.YtfcpaejeppedoaaDoorShelf
import Derived.Lib.OwnBridge
namespace Go.Proofs.YtfcpaejeppedoaaDoor
open Go.RowKit
def OwnS (lo : Nat) (W : World) (v : Value) (gs : List (List Int)) : Prop := W.ownsRow lo 9 1 v gs.length (gs.map fun g => Value.string (strOfNums g))
theorem infoStr : (Tryd.prog.info? 9).map (fun i => (i.zero, i.size, i.bytes)) = some (some (.string ⟨#[]⟩), 1, 16) := by kernel_rfl
theorem owns_nil (lo : Nat) (W : World) : OwnS lo W (.slice none 0 0) [] := World.ownsRow_nil W lo _ _
theorem owns_append {lo : Nat} {w : World} {v : Value} {gs : List (List Int)} (h : OwnS lo w v gs) (g : List Int) (hl : gs.length ≤ 1000000) (hlo : lo ≤ w.heap.size) :
    ∃ b' cap' w', (Builtin.append_ #[63, 63] 63 #[v, .slice (some ⟨w.heap.size, 0, none⟩) 1 1]).run Tryd.prog (w.alloc (.cells #[.string (strOfNums g)] 9)) = .ok (.slice (some ⟨b', 0, none⟩) (gs.length + 1) cap') w' ∧ OwnS lo w' (.slice (some ⟨b', 0, none⟩) (gs.length + 1) cap') (gs ++ [g]) ∧ Below lo w w' ∧ w.heap.size ≤ w'.heap.size ∧ ∀ k, k < w.heap.size → v.ownBlock ≠ some k → w'.heap[k]? = w.heap[k]? := by
  obtain ⟨i0, hi, hz0, hz1, hz2⟩ := info_parts infoStr
  have hb : Below lo w (w.alloc (.cells #[.string (strOfNums g)] 9)) := (Below.refl _ _).alloc hlo _
  obtain ⟨v', w', hr, hown, hg, _⟩ := run_append_own (P := Tryd.prog) (w.alloc (.cells #[.string (strOfNums g)] 9)) lo 63 63 9 i0 (.string ⟨#[]⟩) 1 16 Tryd.underlying63 hi hz0 hz1 hz2 rfl (by decide)
    v gs.length (gs.map fun g => Value.string (strOfNums g)) (h.alloc _) ⟨w.heap.size, 0, none⟩ 1 1 [.string (strOfNums g)] rfl
    (fun j u hj => by
      obtain rfl : j = 0 := by
        cases j with
        | zero => rfl
        | succ j => simp at hj
      obtain rfl : Value.string (strOfNums g) = u := by simpa using hj
      rw [Addr.add_lit]
      exact cell_of_heap (World.alloc_heap_new w _) 0)
    (fun u hu => by obtain rfl : u = .string (strOfNums g) := by simpa using hu
                    rfl) (by unfold maxLen; omega) (by omega) (by simp; omega)
  have hlen : (gs ++ [g]).length = gs.length + 1 := by simp
  have ho : OwnS lo w' v' (gs ++ [g]) := by
    unfold OwnS
    rw [hlen, List.map_append]
    exact hown
  have hbw : Below lo w w' := hb.grown hg (by simp; omega) (fun k hk => (h.lt k hk).1)
  have ho2 := ho
  unfold OwnS at ho2
  rw [hlen] at ho2
  obtain ⟨b', cap', e⟩ := ownsRow_succ ho2
  subst e
  refine ⟨b', cap', w', hr, ho, hbw, hbw.size, fun k hk hne => ?_⟩
  exact (hg.block k (by simp; omega) (fun e => hne e.symm)).trans (Below.heap_alloc _ _ _ hk)
theorem owns_below {lo : Nat} {w w' : World} {v : Value} {gs : List (List Int)} (h : OwnS lo w v gs) (hb : Below w.heap.size w w') : OwnS lo w' v gs := by
  obtain ⟨h1, h2⟩ := h
  refine ⟨h1, ?_⟩
  rcases h2 with ⟨e, h0⟩ | ⟨g, cap, cur, e, hg, hh, hc, hm, hs, ht⟩
  · exact .inl ⟨e, h0⟩
  · exact .inr ⟨g, cap, cur, e, hg, (hb.block g (Array.getElem?_eq_some_iff.1 hh).1).trans hh, hc, hm, hs, ht⟩
theorem seg_keep {lo : Nat} {W W' : World} {sv : Value} {zs : List Int} (h : Seg lo W sv zs) (hk : ∀ k, lo ≤ k → k < W.heap.size → W'.heap[k]? = W.heap[k]?) (hs : W.heap.size ≤ W'.heap.size) : Seg lo W' sv zs := by
  obtain ⟨hw, a, cap, e, h1, h3⟩ := h
  refine ⟨hw, a, cap, e, h1, fun hz => ?_⟩
  obtain ⟨b, off, e1, e2, e3, e4, e5⟩ := h3 hz
  exact ⟨b, off, e1, e2, by omega, fun j hj => (World.cell?_of_block (a := ⟨b, off + j, none⟩) (hk b e2 e3)).trans (e4 j hj), fun j hj => (World.frozen?_of_block (a := ⟨b, off + j, none⟩) (hk b e2 e3)).trans (e5 j hj)⟩
def chars (g : List Int) : List UInt8 := g.map fun n => UInt8.ofNat n.toNat
theorem strOfNums_chars (g : List Int) : Proofs.encStr (chars g) = .string (strOfNums g) := rfl
theorem chars_flatten (gs : List (List Int)) : chars gs.flatten = (gs.map chars).flatten := by
  unfold chars
  rw [List.map_flatten]
theorem join_none (xs : List (List UInt8)) : Lib.join xs [] = xs.flatten := by
  cases xs with
  | nil => rfl
  | cons x r =>
    rw [Lib.join_cons, Lib.joinTail, List.flatten_cons]
    congr 2
    conv => rhs; rw [← List.map_id r]
    exact List.map_congr_left fun y _ => by simp
theorem reverse_any {lo : Nat} {b cap : Nat} {gs : List (List Int)} {w : World} (h : OwnS lo w (.slice (some ⟨b, 0, none⟩) gs.length cap) gs) (hl : gs.length ≤ 1000000) :
    Calls Tryd.prog 31 #[.slice (some ⟨b, 0, none⟩) gs.length cap] w fun e w' => e = .returned (.tuple #[]) ∧ OwnS lo w' (.slice (some ⟨b, 0, none⟩) gs.length cap) gs.reverse ∧ Below lo w w' := by
  have e0 : (gs.map fun g => Value.string (strOfNums g)) = (gs.map chars).map Proofs.encStr := by
    rw [List.map_map]
    exact List.map_congr_left fun g _ => (strOfNums_chars g).symm
  unfold OwnS at h
  rw [e0] at h
  obtain ⟨g, cap', e, hlo, hlt, h1, h2, h3, hH⟩ := Lib.holds_of_ownsRow h (by simp)
  simp only [Value.slice.injEq, Option.some.injEq, Addr.mk.injEq] at e
  obtain ⟨⟨rfl, _⟩, _, rfl⟩ := e
  have hr := Tryd.slices_Reverse_string b 0 cap (gs.map chars) w hH (by rw [List.length_map]; omega)
  rw [List.length_map] at hr
  refine hr.mono ?_
  rintro e w' ⟨rfl, n, rfl⟩
  refine ⟨rfl, ?_, Lib.below_putRow (Below.refl _ _) hlo⟩
  have := Lib.ownsRow_putRow (q := n) (k := gs.length) (ys := (gs.map chars).reverse) h (by simp) (Nat.le_refl _)
  unfold OwnS
  rw [List.length_reverse]
  rw [List.take_of_length_le (by simp)] at this
  rw [show (gs.reverse.map fun g => Value.string (strOfNums g)) = (gs.map chars).reverse.map Proofs.encStr by
    rw [← List.map_reverse, List.map_map]
    exact List.map_congr_left fun g _ => (strOfNums_chars g).symm]
  exact this
theorem join_any {lo : Nat} {b cap : Nat} {gs : List (List Int)} {w : World} (h : OwnS lo w (.slice (some ⟨b, 0, none⟩) gs.length cap) gs) (hl : gs.length ≤ 1000000) (hs : gs.flatten.length ≤ 1000000) :
    Calls Tryd.prog 32 #[.slice (some ⟨b, 0, none⟩) gs.length cap, .string ⟨#[]⟩] w fun e w' => e = .returned (.string (strOfNums gs.flatten)) ∧ Below w.heap.size w w' := by
  have e0 : (gs.map fun g => Value.string (strOfNums g)) = (gs.map chars).map Proofs.encStr := by
    rw [List.map_map]
    exact List.map_congr_left fun g _ => (strOfNums_chars g).symm
  have h' := h
  unfold OwnS at h'
  rw [e0] at h'
  obtain ⟨g, cap', e, hlo, hlt, h1, h2, h3, hH⟩ := Lib.holds_of_ownsRow h' (by simp)
  simp only [Value.slice.injEq, Option.some.injEq, Addr.mk.injEq] at e
  obtain ⟨⟨rfl, _⟩, _, rfl⟩ := e
  have hxs : ((gs.map strOfNums).map (fun x : ByteArray => x.data.toList)) = gs.map chars := by
    rw [List.map_map]
    exact List.map_congr_left fun g _ => strOfNums_data g
  have hj : Lib.join ((gs.map strOfNums).map (fun x : ByteArray => x.data.toList)) (ByteArray.mk #[]).data.toList = chars gs.flatten := by
    rw [hxs]
    show Lib.join (gs.map chars) [] = _
    rw [join_none, chars_flatten]
  have hr := Tryd.strings_Join b 0 cap (gs.map strOfNums) ⟨#[]⟩ w
    (fun j x hx => by
      rw [List.getElem?_map] at hx
      obtain ⟨g, hg, rfl⟩ := Option.map_eq_some_iff.1 hx
      have hjl : j < gs.length := (List.getElem?_eq_some_iff.1 hg).1
      have := (hH j (by simpa using hjl)).1
      rw [this]
      congr 1
      rw [← strOfNums_chars]
      congr 1
      simp [getElem!_pos, hjl]
      rw [(List.getElem?_eq_some_iff.1 hg).2])
    hlt (by rw [List.length_map]; omega) (by rw [List.length_map]; omega) (by rw [hj]; unfold chars; rw [List.length_map]; omega)
  rw [List.length_map, hj] at hr
  exact hr
theorem quo_len {xs qs : List Int} {b : Int} (hx : Words xs) (hq : Words qs) (nq : Norm qs) (e : val qs = val xs / b) : qs.length ≤ xs.length := by
  refine len_below hq nq ?_
  have a := val_lt hx
  have c := val_nonneg hx
  have := Int.ediv_le_self b c
  omega
set_option maxRecDepth 100000 in
set_option maxHeartbeats 4000000 in
theorem put_any {lo : Nat} {a : Option Addr} {cap : Nat} {xs : List Int} {w : World} (h : Seg lo w (.slice a xs.length cap) xs) (hl : xs.length ≤ 1000) :
    Calls Tryd.prog 9 #[.slice a xs.length cap] w fun e w' => e = .returned (.string (strOfNums (decI (val xs)))) ∧ Below w.heap.size w w' := by
  have HL : Hid ((decI (val xs)).length ≤ 20001) := by
    rw [Hid]
    rcases Int.lt_or_eq_of_le (val_nonneg h.words) with h1 | h1
    · rw [decI_pos h1]
      have := decP_len (val_lt h.words)
      omega
    · rw [← h1, decI_zero]
      simp
  have HD : Hid (decI (val xs) = decI (val xs) ++ ([] : List (List Int)).reverse.flatten ∧ ([] : List (List Int)).flatten.length = 19 * ([] : List (List Int)).length) := by
    rw [Hid]; simp
  have h0 : Seg 0 w (.slice a xs.length cap) xs := h.mono (Nat.zero_le _)
  go_enter Tryd.func9, Tryd.ntmps9
  go_wp2
  go_loopg [0, 3] ((val xs).toNat) (fun k nv gv wr => ∃ (a1 : Option Addr) (c1 : Nat) (ns : List Int) (gs : List (List Int)), nv = .slice a1 ns.length c1 ∧ Seg 0 wr (.slice a1 ns.length c1) ns ∧ ns.length ≤ 1000 ∧ OwnS w.heap.size wr gv gs ∧ Hid (k = (val ns).toNat) ∧ Hid (decI (val xs) = decI (val ns) ++ gs.reverse.flatten ∧ gs.flatten.length = 19 * gs.length) ∧ Below w.heap.size w wr)
  case atStart => exact ⟨a, cap, xs, [], rfl, h0, hl, owns_nil _ _, rfl, HD, Below.refl _ _⟩
  case round =>
    clear HD h0 h hl
    obtain ⟨a1, c1, ns, gs, rfl, hs, hln, hg, HK, HD, hB⟩ := hrel
    have hv0 := val_nonneg hs.words
    have hd := qpart_all hs (by omega) 10000000000000000000 ⟨by omega, by omega⟩
    obtain ⟨L, hL⟩ : ∃ L : Nat, val ns % 10000000000000000000 = (L : Int) := ⟨(val ns % 10000000000000000000).toNat, by omega⟩
    have hr : remZ (val ns) 10000000000000000000 = (L : Int) := hL
    have he : errZ 10000000000000000000 = 0 := rfl
    rw [hr, he] at hd
    have hL19 : L < 10 ^ 19 := by omega
    by_cases hq0 : 0 < val ns / 10000000000000000000
    · have HG : Hid (decI (val ns) = decI (val ns / 10000000000000000000) ++ padP 19 L) := by
        rw [Hid, decI_group hv0 hq0, hL]
        rfl
      have HK2 : Hid (val ns / 10000000000000000000 < val ns ∧ 0 ≤ val ns / 10000000000000000000) := by rw [Hid]; omega
      have HP := fun w => putGroup_any L 19 hL19 (by omega) (by omega) w
      have HPL : Hid ((padP 19 L).length = 19) := padP_len 19 L hL19
      have HQ := hide hq0
      clear hr he hL hL19 hv0 hq0
      go_wp2_with fail
      refine hd.mono ?_
      rintro e w1 ⟨a2, c2, qs, rfl, hs2, hn2, hv2, hb2⟩
      have hql : qs.length ≤ 1000 := by
        have := quo_len hs.words hs2.words hn2 hv2
        omega
      have hne : ((qs.length : Int) == 0) = false := beq_eq_false_iff_ne.2 (by
        intro e
        have : qs = [] := List.length_eq_zero_iff.1 (by omega)
        rw [this, val_nil] at hv2
        have := HQ.out
        omega)
      have HV := hide hv2
      have hB2 := hB.trans (hb2.mono hB.size)
      have hg2 := owns_below hg hb2
      clear hd hv2
      go_wp2_with fail
      refine (HP _).mono ?_
      rintro e w2 ⟨rfl, hb3⟩
      have hB3 := hB2.trans (hb3.mono hB2.size)
      have hg3 := owns_below hg2 hb3
      have hg19 : gs.length ≤ 1100 := by
        have h1 := HD.out.1
        have h2 := HD.out.2
        have h3 := HL.out
        have h4 : gs.reverse.flatten.length = gs.flatten.length := by rw [List.length_flatten, List.length_flatten, List.map_reverse, List.sum_reverse]
        rw [h1, List.length_append, h4, h2] at h3
        omega
      obtain ⟨b', c', w4, hap, hg4, hb4, hz4, hk4⟩ := owns_append hg3 (padP 19 L) (by omega) hB3.size
      have hB4 := hB3.trans hb4
      have HG4 := hide hg4
      have HS4 := hide (((seg_keep (hs2.below hb3) (fun k h1 h2 => hk4 k h2 (fun e => by have := (hg.lt k e).2; omega)) hz4)).mono (Nat.zero_le _))
      clear hg hg2 hg3 hg4 hb3 hk4
      go_wp2_with (at_builtin; refine Lib.wpList_append_run _ rfl _ _ _ _ rfl _ _ rfl rfl _ _ hap ?_)
      go_roundg (val qs).toNat
      case measure => rw [HK.out, HV.out]; have := HK2.out; omega
      case rel =>
        refine ⟨a2, c2, qs, gs ++ [padP 19 L], rfl, HS4.out, hql, HG4.out, rfl, ?_, hB4⟩
        refine ⟨?_, ?_⟩
        · rw [HD.out.1, HG.out, HV.out, List.reverse_append]
          simp
        · rw [List.flatten_append, List.length_append, HD.out.2, List.length_append]
          simp [HPL.out]
          omega
    · have HG : Hid (decI (val ns) = padP 1 L) := by
        rw [Hid, decI_low hv0 hq0, hL]
        rfl
      have HP := fun w => putGroup_any L 1 hL19 (by omega) (by omega) w
      have HQ : Hid (val ns / 10000000000000000000 = 0) := by rw [Hid]; omega
      have HPL : Hid ((padP 1 L).length ≤ 19) := padP_len_le 1 L hL19 (by omega)
      clear hr he hL hL19 hv0 hq0
      go_wp2_with fail
      refine hd.mono ?_
      rintro e w1 ⟨a2, c2, qs, rfl, hs2, hn2, hv2, hb2⟩
      obtain rfl : qs = [] := by
        by_cases e : qs = []
        · exact e
        · have := norm_pos hs2.words hn2 e
          rw [hv2, HQ.out] at this
          omega
      have hB2 := hB.trans (hb2.mono hB.size)
      have hg2 := owns_below hg hb2
      clear hd hv2
      go_wp2_with fail
      refine (HP _).mono ?_
      rintro e w2 ⟨rfl, hb3⟩
      have hB3 := hB2.trans (hb3.mono hB2.size)
      have hg3 := owns_below hg2 hb3
      have hg19 : gs.length ≤ 1100 := by
        have h1 := HD.out.1
        have h2 := HD.out.2
        have h3 := HL.out
        have h4 : gs.reverse.flatten.length = gs.flatten.length := by rw [List.length_flatten, List.length_flatten, List.map_reverse, List.sum_reverse]
        rw [h1, List.length_append, h4, h2] at h3
        omega
      obtain ⟨b', c', w4, hap, hg4, hb4, hz4, hk4⟩ := owns_append hg3 (padP 1 L) (by omega) hB3.size
      have hB4 := hB3.trans hb4
      have hlen : (gs ++ [padP 1 L]).length = gs.length + 1 := by simp
      rw [← hlen] at hap hg4
      obtain ⟨hs, hhs⟩ : ∃ hs, gs ++ [padP 1 L] = hs := ⟨_, rfl⟩
      rw [hhs] at hap hg4
      have HF : Hid (hs.reverse.flatten = decI (val xs) ∧ hs.length ≤ 1000000) := by
        refine ⟨?_, ?_⟩
        · rw [← hhs, HD.out.1, HG.out, List.reverse_append]
          simp
        · rw [← hhs, hlen]
          omega
      have hrev := reverse_any hg4 HF.out.2
      clear hg hg2 hg3 hb3 hk4 hhs
      go_wp2_with (at_builtin; refine Lib.wpList_append_run _ rfl _ _ _ _ rfl _ _ rfl rfl _ _ hap ?_)
      refine hrev.mono ?_
      rintro e w5 ⟨rfl, hg5, hb5⟩
      have hB5 := hB4.trans hb5
      have hl5 : hs.reverse.length = hs.length := List.length_reverse
      rw [← hl5] at hg5
      have hjoin := join_any hg5 (by rw [hl5]; exact HF.out.2) (by rw [HF.out.1]; have := HL.out; omega)
      rw [hl5, HF.out.1] at hjoin
      clear hrev
      go_wp2_with fail
      refine hjoin.mono ?_
      rintro e w6 ⟨rfl, hb6⟩
      go_wp2
      go_ret
      exact ⟨rfl, hB5.trans (hb6.mono hB5.size)⟩
end Go.Proofs.YtfcpaejeppedoaaDoor
