/-
  The walk of the program's bare of quotients: n without its highest noughts, by how many bits it has.
-/
import Derived.Test.YtfdlhjnnbhfapaaTBare
namespace Go.Proofs.Ytfdlhjnnbhfapaa
open Go.RowKit

set_option maxRecDepth 100000 in
set_option maxHeartbeats 400000 in
/-- bare(n): n without its highest noughts, in n's own memory. -/
theorem qbare_same {lo : Nat} {a : Option Addr} {cap : Nat} {zs : List Int} {w : World} (h : Seg lo w (.slice a zs.length cap) zs) (hl : zs.length ≤ 10000) :
    Calls Try.prog 40 #[.slice a zs.length cap] w fun e w' => ∃ ts : List Int, e = .returned (.slice a ts.length cap) ∧ Seg lo w' (.slice a ts.length cap) ts ∧ Norm ts ∧ val ts = val zs ∧ ts.length ≤ zs.length ∧ Below w.heap.size w w' := by
  obtain ⟨k, hk, hn, hv⟩ := norm_upto (zs := zs) zs.length (Nat.le_refl _) (fun j h1 h2 => by omega)
  have hkl : (zs.take k).length = k := by rw [List.length_take]; omega
  have hb := blen_len (h.words.take k) hn
  rw [hv, hkl] at hb
  have hL := len_any h hl
  have hcap := h.len.2
  obtain ⟨B, hB⟩ : ∃ B, blen (val zs) = B := ⟨_, rfl⟩
  rw [hB] at hb hL
  have hB1 : B ≤ 1000000 := by omega
  have hq : ((B : Int) + 64 - 1) / 64 = (k : Int) := by omega
  have hkc : (k : Int) ≤ (cap : Int) := by omega
  have HS := hide (h.take hk)
  have HV := hide hv
  have HN := hide hn
  have HK := hide hkl
  clear hB hb hv hn hkl
  go_enter Try.func40, Try.ntmps40
  go_wp2_with fail
  refine hL.mono ?_
  rintro e w1 ⟨rfl, hb1⟩
  go_wp2
  go_ret
  exact ⟨zs.take k, ret_sl HK.out.symm, by rw [HK.out]; exact HS.out.below hb1, HN.out, HV.out, by rw [HK.out]; exact hk, hb1⟩
theorem qbare_any {lo : Nat} {sv : Value} {zs : List Int} {w : World} (h : Seg lo w sv zs) (hl : zs.length ≤ 10000) :
    Calls Try.prog 40 #[sv] w fun e w' => ∃ (a : Option Addr) (cap : Nat) (ts : List Int), e = .returned (.slice a ts.length cap) ∧ Seg lo w' (.slice a ts.length cap) ts ∧ Norm ts ∧ val ts = val zs ∧ ts.length ≤ zs.length ∧ Below w.heap.size w w' := by
  obtain ⟨a, cap, rfl⟩ : ∃ ab cb, sv = .slice ab zs.length cb := by obtain ⟨_, a, cap, e, _⟩ := h; exact ⟨a, cap, e⟩
  refine (qbare_same h hl).mono ?_
  rintro e w' ⟨ts, h1, h2⟩
  exact ⟨a, cap, ts, h1, h2⟩
end Go.Proofs.Ytfdlhjnnbhfapaa
