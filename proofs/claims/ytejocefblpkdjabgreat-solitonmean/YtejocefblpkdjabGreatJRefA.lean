/-
  Joined: RefA TBare QBare RefC.
-/
import Derived.Test.YtejocefblpkdjabGreatJWiden
import Derived.Test.YtejocefblpkdjabGreatJEnds
import Derived.Test.YtejocefblpkdjabGreatLen
import Derived.Test.YtejocefblpkdjabGreatJLenOf
namespace Go.Proofs.YtejocefblpkdjabGreat
open Go.RowKit
theorem ret_sl {a : Option Addr} {n m cap : Nat} (h : n = m) : Ending.returned (.slice a n cap) = .returned (.slice a m cap) := by rw [h]
def slLen : Value → Nat
  | .slice _ l _ => l
  | _ => 0
theorem norm_upto {zs : List Int} : ∀ n, n ≤ zs.length → (∀ j, n ≤ j → j < zs.length → zs[j]?.getD 0 = 0) → ∃ k, k ≤ zs.length ∧ Norm (zs.take k) ∧ val (zs.take k) = val zs
  | 0, _, h => ⟨0, Nat.zero_le _, .inl (by simp), val_take h⟩
  | n + 1, hn, h => by
    by_cases e : zs[n]?.getD 0 = 0
    · refine norm_upto n (by omega) fun j h1 h2 => ?_
      by_cases e1 : j = n
      · subst e1; exact e
      · exact h j (by omega) h2
    · have hl : (zs.take (n + 1)).length = n + 1 := by rw [List.length_take]; omega
      refine ⟨n + 1, hn, .inr ?_, val_take h⟩
      rw [hl, Nat.add_sub_cancel, List.getElem?_take_of_lt (by omega)]; exact e
theorem blen_pos {x : Int} (h : 0 < x) : 1 ≤ blen x := by
  unfold blen Go.bitLen
  split
  · omega
  · omega
theorem blen_len {ts : List Int} (hw : Words ts) (hn : Norm ts) : (blen (val ts) + 63) / 64 = ts.length ∧ blen (val ts) ≤ 64 * ts.length := by
  by_cases h : ts = []
  · subst h; exact ⟨by decide, by decide⟩
  · have e := blen_words hw hn h
    have hp := List.length_pos_iff.2 h
    have c := hw.getD (ts.length - 1)
    have d := hn.resolve_left h
    have a := blen_pos (x := ts[ts.length - 1]?.getD 0) (by omega)
    have b := blen_le _ c.1 c.2
    omega
set_option maxRecDepth 100000 in
set_option maxHeartbeats 400000 in
theorem tbare_any {lo : Nat} {sv : Value} {zs : List Int} {w : World} (h : Seg lo w sv zs) (hl : zs.length ≤ 10000) :
    Calls Tryz.prog 85 #[sv] w fun e w' => ∃ (a : Option Addr) (cap : Nat) (ts : List Int), e = .returned (.slice a ts.length cap) ∧ Seg lo w' (.slice a ts.length cap) ts ∧ Norm ts ∧ val ts = val zs ∧ ts.length ≤ zs.length ∧ Below w.heap.size w w' := by
  obtain ⟨a, cap, rfl⟩ : ∃ ab cb, sv = .slice ab zs.length cb := by obtain ⟨_, a, cap, e, _⟩ := h; exact ⟨a, cap, e⟩
  obtain ⟨k, hk, hn, hv⟩ := norm_upto (zs := zs) zs.length (Nat.le_refl _) (fun j h1 h2 => by omega)
  have hkl : (zs.take k).length = k := by rw [List.length_take]; omega
  have hb := blen_len (h.words.take k) hn
  rw [hv, hkl] at hb
  have hL := len_any h hl
  have hcap := h.len.2
  obtain ⟨B, hB⟩ : ∃ B, blen (val zs) = B := ⟨_, rfl⟩
  rw [hB] at hb hL
  have hB1 : B ≤ 1000000 := by omega
  have hq : ((B : Int) + 64 - 1) / 64 = (k : Int) := by omega
  have hkc : (k : Int) ≤ (cap : Int) := by omega
  have HS := hide (h.take hk)
  have HV := hide hv
  have HN := hide hn
  have HK := hide hkl
  clear hB hb hv hn hkl
  go_enter Tryz.func85, Tryz.ntmps85
  go_wp2_with fail
  refine hL.mono ?_
  rintro e w1 ⟨rfl, hb1⟩
  go_wp2
  go_ret
  exact ⟨_, _, zs.take k, ret_sl HK.out.symm, by rw [HK.out]; exact HS.out.below hb1, HN.out, HV.out, by rw [HK.out]; exact hk, hb1⟩
set_option maxRecDepth 100000 in
set_option maxHeartbeats 400000 in
theorem qbare_same {lo : Nat} {a : Option Addr} {cap : Nat} {zs : List Int} {w : World} (h : Seg lo w (.slice a zs.length cap) zs) (hl : zs.length ≤ 10000) :
    Calls Tryz.prog 80 #[.slice a zs.length cap] w fun e w' => ∃ ts : List Int, e = .returned (.slice a ts.length cap) ∧ Seg lo w' (.slice a ts.length cap) ts ∧ Norm ts ∧ val ts = val zs ∧ ts.length ≤ zs.length ∧ Below w.heap.size w w' := by
  obtain ⟨k, hk, hn, hv⟩ := norm_upto (zs := zs) zs.length (Nat.le_refl _) (fun j h1 h2 => by omega)
  have hkl : (zs.take k).length = k := by rw [List.length_take]; omega
  have hb := blen_len (h.words.take k) hn
  rw [hv, hkl] at hb
  have hL := len_any h hl
  have hcap := h.len.2
  obtain ⟨B, hB⟩ : ∃ B, blen (val zs) = B := ⟨_, rfl⟩
  rw [hB] at hb hL
  have hB1 : B ≤ 1000000 := by omega
  have hq : ((B : Int) + 64 - 1) / 64 = (k : Int) := by omega
  have hkc : (k : Int) ≤ (cap : Int) := by omega
  have HS := hide (h.take hk)
  have HV := hide hv
  have HN := hide hn
  have HK := hide hkl
  clear hB hb hv hn hkl
  go_enter Tryz.func80, Tryz.ntmps80
  go_wp2_with fail
  refine hL.mono ?_
  rintro e w1 ⟨rfl, hb1⟩
  go_wp2
  go_ret
  exact ⟨zs.take k, ret_sl HK.out.symm, by rw [HK.out]; exact HS.out.below hb1, HN.out, HV.out, by rw [HK.out]; exact hk, hb1⟩
theorem qbare_any {lo : Nat} {sv : Value} {zs : List Int} {w : World} (h : Seg lo w sv zs) (hl : zs.length ≤ 10000) :
    Calls Tryz.prog 80 #[sv] w fun e w' => ∃ (a : Option Addr) (cap : Nat) (ts : List Int), e = .returned (.slice a ts.length cap) ∧ Seg lo w' (.slice a ts.length cap) ts ∧ Norm ts ∧ val ts = val zs ∧ ts.length ≤ zs.length ∧ Below w.heap.size w w' := by
  obtain ⟨a, cap, rfl⟩ : ∃ ab cb, sv = .slice ab zs.length cb := by obtain ⟨_, a, cap, e, _⟩ := h; exact ⟨a, cap, e⟩
  refine (qbare_same h hl).mono ?_
  rintro e w' ⟨ts, h1, h2⟩
  exact ⟨a, cap, ts, h1, h2⟩
end Go.Proofs.YtejocefblpkdjabGreat
