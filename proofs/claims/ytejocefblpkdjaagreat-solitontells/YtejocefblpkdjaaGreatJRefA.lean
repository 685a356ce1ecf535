/-
  Joined: RefA TBare QBare RefC.
-/
import Derived.Test.YtejocefblpkdjaaGreatJWiden
import Derived.Test.YtejocefblpkdjaaGreatJEnds
import Derived.Test.YtejocefblpkdjaaGreatLen
import Derived.Test.YtejocefblpkdjaaGreatJLenOf
namespace Go.Proofs.YtejocefblpkdjaaGreat
open Go.RowKit
theorem ret_sl {a : Option Addr} {n m cap : Nat} (h : n = m) : Ending.returned (.slice a n cap) = .returned (.slice a m cap) := by rw [h]
def slLen : Value → Nat
  | .slice _ l _ => l
  | _ => 0
set_option maxRecDepth 100000 in
set_option maxHeartbeats 1000000 in
theorem rtrim_any {lo : Nat} {a : Option Addr} {cap : Nat} {zs : List Int} {w : World} (h : Seg lo w (.slice a zs.length cap) zs) (hl : zs.length ≤ 1000000) :
    Calls Tryz.prog 109 #[.slice a zs.length cap] w fun e w' => ∃ (a' : Option Addr) (cap' : Nat) (ts : List Int), e = .returned (.slice a' ts.length cap') ∧ Seg w.heap.size w' (.slice a' ts.length cap') ts ∧ Norm ts ∧ val ts = val zs ∧ ts.length ≤ zs.length ∧ Below w.heap.size w w' := by
  obtain ⟨len, hlen⟩ : ∃ len, zs.length = len := ⟨_, rfl⟩
  have HL := hide hlen
  rw [hlen] at h hl ⊢
  clear hlen
  go_enter Tryz.func109, Tryz.ntmps109
  go_wp2
  go_loopw [0] (fun n wr => ∃ k : Nat, k ≤ len ∧ n = .slice a k cap ∧ wr = w ∧ Hid (∀ j, k ≤ j → j < len → zs[j]?.getD 0 = 0)) (fun n _ => slLen n)
  case atStart => exact ⟨len, Nat.le_refl _, rfl, rfl, fun j h1 h2 => by omega⟩
  case round =>
    obtain ⟨k, hk, rfl, rfl, HZ⟩ := hrel
    have hcopy : ∀ hkl : (zs.take k).length = k, ∃ a' cap' w', (Builtin.append_ #[23, 23] 23 #[.slice (some ⟨wr.heap.size, 0, none⟩) 0 0, .slice a k cap]).run Tryz.prog (wr.alloc (.cells #[] 78)) = .ok (.slice a' k cap') w' ∧ Seg wr.heap.size w' (.slice a' k cap') (zs.take k) ∧ Below wr.heap.size wr w' := fun hkl => by
      have := append_copy (zs := zs.take k) (by rw [hkl]; exact h.take (by rw [HL.out]; exact hk)) (by omega)
      rwa [hkl] at this
    have hkl : (zs.take k).length = k := by rw [List.length_take, HL.out]; omega
    have HV : Hid (val (zs.take k) = val zs) := val_take fun j h1 h2 => HZ.out j h1 (by rw [← HL.out]; exact h2)
    obtain ⟨a', cap', w', hap, hs', hb'⟩ := hcopy hkl
    have HK := hide hkl
    clear hcopy hkl
    by_cases h0 : k = 0
    · subst h0
      go_wp2_with (at_builtin; refine Lib.wpList_append_run _ rfl _ _ _ _ rfl _ _ rfl rfl _ _ hap ?_)
      go_ret
      exact ⟨a', cap', zs.take 0, by simp, by simpa using hs', .inl (by simp), HV.out, by simp, hb'⟩
    · obtain ⟨m, rfl⟩ : ∃ m, k = m + 1 := ⟨k - 1, by omega⟩
      obtain ⟨b, off, rfl, _, _⟩ := h.row (by omega)
      have hc := (h.cell (j := m) (by omega)).1
      have hcap := h.len.2
      have hp : (0 : Int) < (m : Int) + 1 := by omega
      by_cases hz : zs[m]?.getD 0 = 0
      · have hzb : (zs[m]?.getD 0 == 0) = true := by simpa using hz
        have HQ := hide hz
        have hmc : (m : Int) ≤ (cap : Int) := by omega
        clear hz
        go_wp2_with (at_builtin; refine Lib.wpList_append_run _ rfl _ _ _ _ rfl _ _ rfl rfl _ _ hap ?_)
        refine ⟨⟨m, by omega, by first | rfl | trivial, by first | rfl | trivial, fun j h1 h2 => ?_⟩, by simp [slLen]⟩
        by_cases e : j = m
        · subst e; exact HQ.out
        · exact HZ.out j (by omega) h2
      · have hzb : (zs[m]?.getD 0 == 0) = false := by simpa using hz
        have HQ := hide hz
        clear hz
        go_wp2_with (at_builtin; refine Lib.wpList_append_run _ rfl _ _ _ _ rfl _ _ rfl rfl _ _ hap ?_)
        go_ret
        refine ⟨a', cap', zs.take (m + 1), ret_sl HK.out.symm, by rw [HK.out]; exact hs', .inr ?_, HV.out, by rw [HK.out]; omega, hb'⟩
        rw [HK.out, Nat.add_sub_cancel, List.getElem?_take_of_lt (by omega)]; exact HQ.out
set_option maxRecDepth 100000 in
set_option maxHeartbeats 400000 in
theorem rof_any (x : Int) (hx : 0 ≤ x ∧ x < 18446744073709551616) (w : World) :
    Calls Tryz.prog 116 #[.int .u64 x] w fun e w' => ∃ (a : Option Addr) (cap : Nat) (ts : List Int), e = .returned (.slice a ts.length cap) ∧ Seg w.heap.size w' (.slice a ts.length cap) ts ∧ Norm ts ∧ val ts = x ∧ ts.length ≤ 1 ∧ Below w.heap.size w w' := by
  have hs : Seg w.heap.size (w.alloc (.cells #[.int .u64 x] 78)) (.slice (some ⟨w.heap.size, 0, none⟩) [x].length 1) [x] := by
    refine ⟨Words.cons hx Words.nil, _, _, rfl, Nat.le_refl _, fun _ => ⟨_, 0, rfl, Nat.le_refl _, by simp, fun j hj => ?_, fun j _ => frozen_of_heap (World.alloc_heap_new w _) _⟩⟩
    obtain rfl : j = 0 := by simpa using hj
    exact cell_of_heap (World.alloc_heap_new w _) 0
  have ht := rtrim_any hs (by simp)
  have hb : Below w.heap.size w (w.alloc (.cells #[.int .u64 x] 78)) := (Below.refl _ _).alloc (Nat.le_refl _) _
  go_enter Tryz.func116, Tryz.ntmps116
  go_wp2_with fail
  refine ht.mono ?_
  rintro e w1 ⟨a1, c1, ts, rfl, hs1, hn1, hv1, hl1, hb1⟩
  have HV := hide hv1
  clear hv1
  go_wp2
  go_ret
  exact ⟨_, _, ts, rfl, hs1.mono hb.size, hn1, by rw [HV.out]; simp [val], by simpa using hl1, hb.trans (hb1.mono hb.size)⟩
set_option maxRecDepth 100000 in
set_option maxHeartbeats 1000000 in
theorem rlen_any {lo : Nat} {a : Option Addr} {cap : Nat} {zs : List Int} {w : World} (h : Seg lo w (.slice a zs.length cap) zs) (hl : zs.length ≤ 10000) :
    Calls Tryz.prog 125 #[.slice a zs.length cap] w fun e w' => e = .returned (.int .i64 (blen (val zs))) ∧ Below w.heap.size w w' := by
  go_enter Tryz.func125, Tryz.ntmps125
  go_wp2_with fail
  refine (rtrim_any h (by omega)).mono ?_
  rintro e w1 ⟨a1, cap1, ts, rfl, hs1, hn1, hv1, hl1, hb1⟩
  by_cases h0 : ts = []
  · have HF : Hid (blen (val zs) = 0) := by rw [Hid, ← hv1, h0]; rfl
    subst h0
    clear hv1
    go_wp2
    go_ret
    exact ⟨ret_int (by rw [HF.out]; rfl), hb1⟩
  · have hw := hs1.words
    have HF := hide (blen_words hw hn1 h0)
    rw [hv1] at HF
    have hp : 0 < ts.length := List.length_pos_iff.2 h0
    obtain ⟨b, off, rfl, _, _⟩ := hs1.row hp
    obtain ⟨n, hn⟩ : ∃ n, ts.length = n + 1 := ⟨ts.length - 1, by omega⟩
    have hc := (hs1.cell (j := n) (by omega)).1
    have hd := hw.getD n
    rw [hn] at HF hs1 hl1 ⊢
    rw [Nat.add_sub_cancel] at HF
    generalize ts[n]?.getD 0 = d at *
    have hle := blen_le d hd.1 hd.2
    clear hv1 hn h0 hp
    have hlz : (((n : Int) + 1) == 0) = false := beq_eq_false_iff_ne.2 (by omega)
    have hn10 : n ≤ 10000 := by omega
    go_wp2
    go_loopw [3, 4] (fun bt x wr => ∃ (k : Nat) (y : Int), bt = .int .i64 ((64 * n + k : Nat) : Int) ∧ x = .int .u64 y ∧ 0 ≤ y ∧ y < 18446744073709551616 ∧ Hid (blen d = k + blen y) ∧ wr = w1) (fun _ x _ => (intOf x).toNat)
    case atStart => exact ⟨0, d, by go_num, rfl, hd.1, hd.2, by rw [Hid]; omega, rfl⟩
    case round =>
      obtain ⟨k, y, rfl, rfl, hy0, hy1, HK, rfl⟩ := hrel
      have hk64 : k ≤ 64 := by have := HK.out; omega
      by_cases hy : 0 < y
      · have HH : Hid (blen y = 1 + blen (y / 2)) := by
          obtain ⟨m, rfl⟩ := Int.eq_ofNat_of_zero_le hy0
          exact bitLen_half m (by omega)
        go_wp2
        refine ⟨⟨k + 1, y / 2, by go_num, rfl, by omega, by omega, by have := HK.out; have := HH.out; rw [Hid]; omega, by first | rfl | trivial⟩, by simp [intOf]; omega⟩
      · obtain rfl : y = 0 := by omega
        go_wp2
        go_ret
        exact ⟨ret_int (by have := HK.out; rw [blen_zero] at this; rw [HF.out, this]; omega), hb1⟩
theorem norm_upto {zs : List Int} : ∀ n, n ≤ zs.length → (∀ j, n ≤ j → j < zs.length → zs[j]?.getD 0 = 0) → ∃ k, k ≤ zs.length ∧ Norm (zs.take k) ∧ val (zs.take k) = val zs
  | 0, _, h => ⟨0, Nat.zero_le _, .inl (by simp), val_take h⟩
  | n + 1, hn, h => by
    by_cases e : zs[n]?.getD 0 = 0
    · refine norm_upto n (by omega) fun j h1 h2 => ?_
      by_cases e1 : j = n
      · subst e1; exact e
      · exact h j (by omega) h2
    · have hl : (zs.take (n + 1)).length = n + 1 := by rw [List.length_take]; omega
      refine ⟨n + 1, hn, .inr ?_, val_take h⟩
      rw [hl, Nat.add_sub_cancel, List.getElem?_take_of_lt (by omega)]; exact e
theorem blen_pos {x : Int} (h : 0 < x) : 1 ≤ blen x := by
  unfold blen Go.bitLen
  split
  · omega
  · omega
theorem blen_len {ts : List Int} (hw : Words ts) (hn : Norm ts) : (blen (val ts) + 63) / 64 = ts.length ∧ blen (val ts) ≤ 64 * ts.length := by
  by_cases h : ts = []
  · subst h; exact ⟨by decide, by decide⟩
  · have e := blen_words hw hn h
    have hp := List.length_pos_iff.2 h
    have c := hw.getD (ts.length - 1)
    have d := hn.resolve_left h
    have a := blen_pos (x := ts[ts.length - 1]?.getD 0) (by omega)
    have b := blen_le _ c.1 c.2
    omega
set_option maxRecDepth 100000 in
set_option maxHeartbeats 400000 in
theorem tbare_any {lo : Nat} {sv : Value} {zs : List Int} {w : World} (h : Seg lo w sv zs) (hl : zs.length ≤ 10000) :
    Calls Tryz.prog 142 #[sv] w fun e w' => ∃ (a : Option Addr) (cap : Nat) (ts : List Int), e = .returned (.slice a ts.length cap) ∧ Seg lo w' (.slice a ts.length cap) ts ∧ Norm ts ∧ val ts = val zs ∧ ts.length ≤ zs.length ∧ Below w.heap.size w w' := by
  obtain ⟨a, cap, rfl⟩ : ∃ ab cb, sv = .slice ab zs.length cb := by obtain ⟨_, a, cap, e, _⟩ := h; exact ⟨a, cap, e⟩
  obtain ⟨k, hk, hn, hv⟩ := norm_upto (zs := zs) zs.length (Nat.le_refl _) (fun j h1 h2 => by omega)
  have hkl : (zs.take k).length = k := by rw [List.length_take]; omega
  have hb := blen_len (h.words.take k) hn
  rw [hv, hkl] at hb
  have hL := len_any h hl
  have hcap := h.len.2
  obtain ⟨B, hB⟩ : ∃ B, blen (val zs) = B := ⟨_, rfl⟩
  rw [hB] at hb hL
  have hB1 : B ≤ 1000000 := by omega
  have hq : ((B : Int) + 64 - 1) / 64 = (k : Int) := by omega
  have hkc : (k : Int) ≤ (cap : Int) := by omega
  have HS := hide (h.take hk)
  have HV := hide hv
  have HN := hide hn
  have HK := hide hkl
  clear hB hb hv hn hkl
  go_enter Tryz.func142, Tryz.ntmps142
  go_wp2_with fail
  refine hL.mono ?_
  rintro e w1 ⟨rfl, hb1⟩
  go_wp2
  go_ret
  exact ⟨_, _, zs.take k, ret_sl HK.out.symm, by rw [HK.out]; exact HS.out.below hb1, HN.out, HV.out, by rw [HK.out]; exact hk, hb1⟩
set_option maxRecDepth 100000 in
set_option maxHeartbeats 400000 in
theorem qbare_same {lo : Nat} {a : Option Addr} {cap : Nat} {zs : List Int} {w : World} (h : Seg lo w (.slice a zs.length cap) zs) (hl : zs.length ≤ 10000) :
    Calls Tryz.prog 152 #[.slice a zs.length cap] w fun e w' => ∃ ts : List Int, e = .returned (.slice a ts.length cap) ∧ Seg lo w' (.slice a ts.length cap) ts ∧ Norm ts ∧ val ts = val zs ∧ ts.length ≤ zs.length ∧ Below w.heap.size w w' := by
  obtain ⟨k, hk, hn, hv⟩ := norm_upto (zs := zs) zs.length (Nat.le_refl _) (fun j h1 h2 => by omega)
  have hkl : (zs.take k).length = k := by rw [List.length_take]; omega
  have hb := blen_len (h.words.take k) hn
  rw [hv, hkl] at hb
  have hL := len_any h hl
  have hcap := h.len.2
  obtain ⟨B, hB⟩ : ∃ B, blen (val zs) = B := ⟨_, rfl⟩
  rw [hB] at hb hL
  have hB1 : B ≤ 1000000 := by omega
  have hq : ((B : Int) + 64 - 1) / 64 = (k : Int) := by omega
  have hkc : (k : Int) ≤ (cap : Int) := by omega
  have HS := hide (h.take hk)
  have HV := hide hv
  have HN := hide hn
  have HK := hide hkl
  clear hB hb hv hn hkl
  go_enter Tryz.func152, Tryz.ntmps152
  go_wp2_with fail
  refine hL.mono ?_
  rintro e w1 ⟨rfl, hb1⟩
  go_wp2
  go_ret
  exact ⟨zs.take k, ret_sl HK.out.symm, by rw [HK.out]; exact HS.out.below hb1, HN.out, HV.out, by rw [HK.out]; exact hk, hb1⟩
theorem qbare_any {lo : Nat} {sv : Value} {zs : List Int} {w : World} (h : Seg lo w sv zs) (hl : zs.length ≤ 10000) :
    Calls Tryz.prog 152 #[sv] w fun e w' => ∃ (a : Option Addr) (cap : Nat) (ts : List Int), e = .returned (.slice a ts.length cap) ∧ Seg lo w' (.slice a ts.length cap) ts ∧ Norm ts ∧ val ts = val zs ∧ ts.length ≤ zs.length ∧ Below w.heap.size w w' := by
  obtain ⟨a, cap, rfl⟩ : ∃ ab cb, sv = .slice ab zs.length cb := by obtain ⟨_, a, cap, e, _⟩ := h; exact ⟨a, cap, e⟩
  refine (qbare_same h hl).mono ?_
  rintro e w' ⟨ts, h1, h2⟩
  exact ⟨a, cap, ts, h1, h2⟩
theorem val_take_next (zs : List Int) (k : Nat) : val (zs.take (k + 1)) = val (zs.take k) + pw k * zs[k]?.getD 0 := by
  by_cases h : k < zs.length
  · exact val_take_succ zs k h
  · rw [List.take_of_length_le (by omega), List.take_of_length_le (by omega), List.getElem?_eq_none (by omega)]
    simp
end Go.Proofs.YtejocefblpkdjaaGreat
