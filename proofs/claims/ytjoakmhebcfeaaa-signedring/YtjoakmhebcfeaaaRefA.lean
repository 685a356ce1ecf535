/-
  The walks of the document's answers: Trim, Of, One, Check, Len, Cmp.
-/
import Derived.Test.YtjoakmhebcfeaaaOwn
import Derived.Test.YtjoakmhebcfeaaaEnds
import Derived.Test.YtjoakmhebcfeaaaLen
namespace Go.Proofs.Ytjoakmhebcfeaaa
open Go.RowKit

theorem ret_one {a b : Int} {t : Bool} (h : a = b) : Ending.returned (.tuple #[.int .u64 a, .bool t]) = .returned (.tuple #[.int .u64 b, .bool t]) := by rw [h]
theorem ret_sl {a : Option Addr} {n m cap : Nat} (h : n = m) : Ending.returned (.slice a n cap) = .returned (.slice a m cap) := by rw [h]
/-- The length of a slice value. -/
def slLen : Value → Nat
  | .slice _ l _ => l
  | _ => 0

set_option maxRecDepth 100000 in
set_option maxHeartbeats 1000000 in
/-- The document's Trim. -/
theorem rtrim_any {lo : Nat} {a : Option Addr} {cap : Nat} {zs : List Int} {w : World} (h : Seg lo w (.slice a zs.length cap) zs) (hl : zs.length ≤ 1000000) :
    Calls Try.prog 43 #[.slice a zs.length cap] w fun e w' => ∃ (a' : Option Addr) (cap' : Nat) (ts : List Int), e = .returned (.slice a' ts.length cap') ∧ Seg w.heap.size w' (.slice a' ts.length cap') ts ∧ Norm ts ∧ val ts = val zs ∧ ts.length ≤ zs.length ∧ Below w.heap.size w w' := by
  obtain ⟨len, hlen⟩ : ∃ len, zs.length = len := ⟨_, rfl⟩
  have HL := hide hlen
  rw [hlen] at h hl ⊢
  clear hlen
  go_enter Try.func43, Try.ntmps43
  go_wp2
  go_loopw [0] (fun n wr => ∃ k : Nat, k ≤ len ∧ n = .slice a k cap ∧ wr = w ∧ Hid (∀ j, k ≤ j → j < len → zs[j]?.getD 0 = 0)) (fun n _ => slLen n)
  case atStart => exact ⟨len, Nat.le_refl _, rfl, rfl, fun j h1 h2 => by omega⟩
  case round =>
    obtain ⟨k, hk, rfl, rfl, HZ⟩ := hrel
    have hcopy : ∀ hkl : (zs.take k).length = k, ∃ a' cap' w', (Builtin.append_ #[23, 23] 23 #[.slice (some ⟨wr.heap.size, 0, none⟩) 0 0, .slice a k cap]).run Try.prog (wr.alloc (.cells #[] 41)) = .ok (.slice a' k cap') w' ∧ Seg wr.heap.size w' (.slice a' k cap') (zs.take k) ∧ Below wr.heap.size wr w' := fun hkl => by
      have := append_copy (zs := zs.take k) (by rw [hkl]; exact h.take (by rw [HL.out]; exact hk)) (by omega)
      rwa [hkl] at this
    have hkl : (zs.take k).length = k := by rw [List.length_take, HL.out]; omega
    have HV : Hid (val (zs.take k) = val zs) := val_take fun j h1 h2 => HZ.out j h1 (by rw [← HL.out]; exact h2)
    obtain ⟨a', cap', w', hap, hs', hb'⟩ := hcopy hkl
    have HK := hide hkl
    clear hcopy hkl
    by_cases h0 : k = 0
    · subst h0
      go_wp2_with (at_builtin; refine Lib.wpList_append_run _ rfl _ _ _ _ rfl _ _ rfl rfl _ _ hap ?_)
      go_ret
      exact ⟨a', cap', zs.take 0, by simp, by simpa using hs', .inl (by simp), HV.out, by simp, hb'⟩
    · obtain ⟨m, rfl⟩ : ∃ m, k = m + 1 := ⟨k - 1, by omega⟩
      obtain ⟨b, off, rfl, _, _⟩ := h.row (by omega)
      have hc := (h.cell (j := m) (by omega)).1
      have hcap := h.len.2
      have hp : (0 : Int) < (m : Int) + 1 := by omega
      by_cases hz : zs[m]?.getD 0 = 0
      · have hzb : (zs[m]?.getD 0 == 0) = true := by simpa using hz
        have HQ := hide hz
        have hmc : (m : Int) ≤ (cap : Int) := by omega
        clear hz
        go_wp2_with (at_builtin; refine Lib.wpList_append_run _ rfl _ _ _ _ rfl _ _ rfl rfl _ _ hap ?_)
        refine ⟨⟨m, by omega, by first | rfl | trivial, by first | rfl | trivial, fun j h1 h2 => ?_⟩, by simp [slLen]⟩
        by_cases e : j = m
        · subst e; exact HQ.out
        · exact HZ.out j (by omega) h2
      · have hzb : (zs[m]?.getD 0 == 0) = false := by simpa using hz
        have HQ := hide hz
        clear hz
        go_wp2_with (at_builtin; refine Lib.wpList_append_run _ rfl _ _ _ _ rfl _ _ rfl rfl _ _ hap ?_)
        go_ret
        refine ⟨a', cap', zs.take (m + 1), ret_sl HK.out.symm, by rw [HK.out]; exact hs', .inr ?_, HV.out, by rw [HK.out]; omega, hb'⟩
        rw [HK.out, Nat.add_sub_cancel, List.getElem?_take_of_lt (by omega)]; exact HQ.out

set_option maxRecDepth 100000 in
set_option maxHeartbeats 400000 in
/-- The document's Of. -/
theorem rof_any (x : Int) (hx : 0 ≤ x ∧ x < 18446744073709551616) (w : World) :
    Calls Try.prog 44 #[.int .u64 x] w fun e w' => ∃ (a : Option Addr) (cap : Nat) (ts : List Int), e = .returned (.slice a ts.length cap) ∧ Seg w.heap.size w' (.slice a ts.length cap) ts ∧ Norm ts ∧ val ts = x ∧ ts.length ≤ 1 ∧ Below w.heap.size w w' := by
  have hs : Seg w.heap.size (w.alloc (.cells #[.int .u64 x] 41)) (.slice (some ⟨w.heap.size, 0, none⟩) [x].length 1) [x] := by
    refine ⟨Words.cons hx Words.nil, _, _, rfl, Nat.le_refl _, fun _ => ⟨_, 0, rfl, Nat.le_refl _, by simp, fun j hj => ?_, fun j _ => frozen_of_heap (World.alloc_heap_new w _) _⟩⟩
    obtain rfl : j = 0 := by simpa using hj
    exact cell_of_heap (World.alloc_heap_new w _) 0
  have ht := rtrim_any hs (by simp)
  have hb : Below w.heap.size w (w.alloc (.cells #[.int .u64 x] 41)) := (Below.refl _ _).alloc (Nat.le_refl _) _
  go_enter Try.func44, Try.ntmps44
  go_wp2_with fail
  refine ht.mono ?_
  rintro e w1 ⟨a1, c1, ts, rfl, hs1, hn1, hv1, hl1, hb1⟩
  have HV := hide hv1
  clear hv1
  go_wp2
  go_ret
  exact ⟨_, _, ts, rfl, hs1.mono hb.size, hn1, by rw [HV.out]; simp [val], by simpa using hl1, hb.trans (hb1.mono hb.size)⟩

set_option maxRecDepth 100000 in
set_option maxHeartbeats 400000 in
/-- The document's One, below 2^64. -/
theorem rone_yes {lo : Nat} {a : Option Addr} {cap : Nat} {zs : List Int} {w : World} (h : Seg lo w (.slice a zs.length cap) zs) (hl : zs.length ≤ 10000) (hv : val zs < 18446744073709551616) :
    Calls Try.prog 42 #[.slice a zs.length cap] w fun e w' => e = .returned (.tuple #[.int .u64 (val zs), .bool true]) ∧ Below w.heap.size w w' := by
  go_enter Try.func42, Try.ntmps42
  go_wp2_with fail
  refine (rtrim_any h (by omega)).mono ?_
  rintro e w1 ⟨a1, cap1, ts, rfl, hs1, hn1, hv1, hl1, hb1⟩
  by_cases h0 : ts = []
  · subst h0
    have HV : Hid (val zs = 0) := by rw [Hid, ← hv1, val_nil]
    clear hv1 hv
    go_wp2
    go_ret2
    exact ⟨ret_one HV.out.symm, hb1⟩
  · have hp := List.length_pos_iff.2 h0
    have hlt : ts.length = 1 := by
      rcases Nat.lt_or_ge 1 ts.length with h2 | h2
      · have b := norm_val hs1.words hn1 h0
        have c := pw_mono (m := 1) (n := ts.length - 1) (by omega)
        rw [show pw 1 = 18446744073709551616 from rfl] at c
        omega
      · omega
    obtain ⟨t, rfl⟩ : ∃ t, ts = [t] := List.length_eq_one_iff.1 hlt
    obtain ⟨b, off, rfl, _, _⟩ := hs1.row (by simp)
    have hc := (hs1.cell (j := 0) (by simp)).1
    simp only [List.getElem?_cons_zero, Option.getD_some, Nat.add_zero] at hc
    have HV : Hid (t = val zs) := by rw [Hid, ← hv1]; simp [val]
    clear hv1 hv hlt h0 hp
    go_wp2
    go_ret2
    exact ⟨ret_one HV.out, hb1⟩

set_option maxRecDepth 100000 in
set_option maxHeartbeats 400000 in
/-- The document's One, not below 2^64. -/
theorem rone_no {lo : Nat} {a : Option Addr} {cap : Nat} {zs : List Int} {w : World} (h : Seg lo w (.slice a zs.length cap) zs) (hl : zs.length ≤ 10000) (hv : 18446744073709551616 ≤ val zs) :
    Calls Try.prog 42 #[.slice a zs.length cap] w fun e w' => e = .returned (.tuple #[.int .u64 0, .bool false]) ∧ Below w.heap.size w w' := by
  go_enter Try.func42, Try.ntmps42
  go_wp2_with fail
  refine (rtrim_any h (by omega)).mono ?_
  rintro e w1 ⟨a1, cap1, ts, rfl, hs1, hn1, hv1, hl1, hb1⟩
  have hl0 : 1 < ts.length := by
    have a := val_lt hs1.words
    rcases Nat.lt_or_ge 1 ts.length with h2 | h2
    · exact h2
    · have c := pw_mono (m := ts.length) (n := 1) h2
      rw [show pw 1 = 18446744073709551616 from rfl] at c
      omega
  have b0 : ((ts.length : Int) == 0) = false := beq_eq_false_iff_ne.2 (by omega)
  have b1 : ((ts.length : Int) == 1) = false := beq_eq_false_iff_ne.2 (by omega)
  clear hv1 hv
  go_wp2
  go_ret2
  exact ⟨rfl, hb1⟩

set_option maxRecDepth 100000 in
set_option maxHeartbeats 400000 in
/-- The document's Check. -/
theorem rcheck_any {lo : Nat} {a : Option Addr} {cap : Nat} {zs : List Int} {w : World} (h : Seg lo w (.slice a zs.length cap) zs) (hl : zs.length ≤ 10000) :
    Calls Try.prog 46 #[.slice a zs.length cap] w fun e w' => e = .returned (.int .i64 (formOf zs)) ∧ w' = w := by
  by_cases h0 : zs = []
  · subst h0
    go_enter Try.func46, Try.ntmps46
    go_wp2
    go_ret
    exact ⟨ret_int (by simp [formOf]), rfl⟩
  · have hp : 0 < zs.length := List.length_pos_iff.2 h0
    obtain ⟨b, off, rfl, _, _⟩ := h.row hp
    obtain ⟨n, hn'⟩ : ∃ n, zs.length = n + 1 := ⟨zs.length - 1, by omega⟩
    have hc := (h.cell (j := n) (by omega)).1
    have HF : Hid (formOf zs = if zs[n]?.getD 0 ≠ 0 then 0 else 6) := by
      unfold formOf; rw [hn', Nat.add_sub_cancel, Hid]; simp [h0]
    rw [hn']
    have hl' : n ≤ 10000 := by omega
    have hp' : (0 : Int) < (n : Int) + 1 := by omega
    clear h0 hp hn' hl h
    generalize zs[n]?.getD 0 = d at *
    by_cases hd : d = 0
    · subst hd
      go_enter Try.func46, Try.ntmps46
      go_wp2
      go_ret
      exact ⟨ret_int (by rw [HF.out]; rfl), rfl⟩
    · have hb : (d == 0) = false := by simpa using hd
      have HD := hide hd
      clear hd
      go_enter Try.func46, Try.ntmps46
      go_wp2
      go_ret
      exact ⟨ret_int (by rw [HF.out, if_pos HD.out]), rfl⟩

end Go.Proofs.Ytjoakmhebcfeaaa
