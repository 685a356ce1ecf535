/-
  Joined: CWords CKnown CSealed.
-/
import Derived.Test.YtedjicimgalneaaJCTab
import Derived.Lib.SlBytesConst
namespace Go.Proofs.Ytedjicimgalneaa
open Go.RowKit
def openB (f : Nat → Nat) (bs : List Int) : List Int × Int := if bs.length < 4 then ([], 7) else openZ f (bs.take (bs.length - 4)) (bs.drop (bs.length - 4))
theorem openB_append (f : Nat → Nat) (zs ys : List Int) (h : ys.length = 4) : openB f (zs ++ ys) = openZ f zs ys := by
  unfold openB
  rw [if_neg (by rw [List.length_append]; omega)]
  have : (zs ++ ys).length - 4 = zs.length := by rw [List.length_append]; omega
  rw [this, List.take_left, List.drop_left]
theorem openB_short (f : Nat → Nat) {bs : List Int} (h : bs.length < 4) : openB f bs = ([], 7) := if_pos h
theorem parts4 {bs : List Int} {m : Nat} (h : bs.length = m + 4) : ∃ zs ys, bs = zs ++ ys ∧ zs.length = m ∧ ys.length = 4 := ⟨bs.take m, bs.drop m, (List.take_append_drop m bs).symm, by rw [List.length_take]; omega, by rw [List.length_drop]; omega⟩
theorem copen_any {lo : Nat} {p : Option Addr} {f : Nat → Nat} {a : Option Addr} {n c : Nat} {bs : List Int} {w : World} (T : PT w p f) (hf : Nums f) (X : Byt lo w (.slice a n c) bs) (hl : n ≤ 900000) :
    Calls Try.prog 40 #[.pointer p, .slice a n c] w (OpSaid (openB f bs).1 (openB f bs).2 w) := by
  have hn := X.len.1
  by_cases h : n < 4
  · rw [openB_short f (by omega)]
    refine (copen_short p a n c w h).mono ?_
    rintro e w' ⟨rfl, rfl⟩
    exact opsaid_none rfl (Below.refl _ _)
  · obtain ⟨q, o, rfl, _, _⟩ := X.row (by omega)
    obtain ⟨m, rfl⟩ : ∃ m, n = m + 4 := ⟨n - 4, by omega⟩
    obtain ⟨zs, ys, rfl, hz, hy⟩ := parts4 hn.symm
    rw [openB_append f zs ys hy]
    exact copen_some T hf X hz hy (by omega)
end Go.Proofs.Ytedjicimgalneaa
namespace Go.Proofs.Ytedjicimgalneaa
open Go.RowKit
end Go.Proofs.Ytedjicimgalneaa
namespace Go.Proofs.Ytedjicimgalneaa
open Go.RowKit
theorem open_turned {ts : List Int} {m : Nat} (ho : Octs ts) (hl : ts.length = m + 4) (h : cReg cT 4294967295 ts ≠ 3736805603) : openB cT ts = ([], 8) := by
  obtain ⟨zs, ys, rfl, _, hy⟩ := parts4 hl
  have hz : Octs zs := fun z hz => ho z (List.mem_append_left _ hz)
  have hys : Octs ys := fun z hz => ho z (List.mem_append_right _ hz)
  obtain ⟨s, hs, e⟩ := le4_of hys hy
  rw [openB_append cT zs ys hy]
  unfold openZ
  rw [if_neg]
  intro e2
  exact h ((cReg_opened hz hs e).2 e2)
theorem turn_one {ts : List Int} {N F m i j q : Nat} (ho : Octs ts) (hl : ts.length = N) (hk : 8 * j + q = F + i) (hq : q < 8) (hj : j < N) (hb : m / 2 ^ i % 2 = 1) (h : cReg cT 4294967295 ts = 3736805603 ^^^ cSn (8 * N - F) (m % 2 ^ i)) :
    cReg cT 4294967295 (ts.set j (bx (ts[j]?.getD 0) (2 ^ q))) = 3736805603 ^^^ cSn (8 * N - F) (m % 2 ^ (i + 1)) := by
  rw [cReg_flip (by omega) hq ho, h, mask_succ m i, hb, Nat.mul_one, cSn_xor, hl]
  have e : cSn (8 * N - F) (2 ^ i) = cSn (8 * N - (8 * j + q)) 1 := by
    rw [show 8 * N - F = (8 * N - (8 * j + q)) + i by omega, cSn_add]
    have := cSn_pow i 1
    rw [Nat.mul_one] at this
    rw [this]
  rw [e, Nat.xor_assoc, Nat.xor_comm (cSn (8 * N - F) (m % 2 ^ i))]
theorem turn_none {r N F m i : Nat} (hb : ¬ m / 2 ^ i % 2 = 1) (h : r = 3736805603 ^^^ cSn (8 * N - F) (m % 2 ^ i)) : r = 3736805603 ^^^ cSn (8 * N - F) (m % 2 ^ (i + 1)) := by
  rw [mask_succ m i, show m / 2 ^ i % 2 = 0 by omega, Nat.mul_zero, Nat.zero_xor]
  exact h
theorem turned_all {r N F m : Nat} (h0 : m ≠ 0) (hm : m < 4294967296) (h : r = 3736805603 ^^^ cSn (8 * N - F) (m % 2 ^ 32)) : r ≠ 3736805603 := by
  intro e
  rw [e, show m % 2 ^ 32 = m from Nat.mod_eq_of_lt hm] at h
  have h2 : 3736805603 ^^^ 3736805603 = 3736805603 ^^^ (3736805603 ^^^ cSn (8 * N - F) m) := by rw [← h]
  rw [Nat.xor_self, ← Nat.xor_assoc, Nat.xor_self, Nat.zero_xor] at h2
  exact h0 (cSn_eq_zero hm _ h2.symm)
theorem sealed_start {zs : List Int} (ho : Octs zs) (N F m : Nat) : cReg cT 4294967295 (zs ++ le4 (sumBy cT zs)) = 3736805603 ^^^ cSn (8 * N - F) (m % 2 ^ 0) := by
  rw [show m % 2 ^ 0 = 0 from Nat.mod_one m, cSn_zero, Nat.xor_zero]
  exact cReg_sealed ho
theorem bit_tmod (m k : Nat) : ((m : Int) / 2 ^ k).tmod 2 = ((m / 2 ^ k % 2 : Nat) : Int) := by
  have e : (m : Int) / 2 ^ k = ((m / 2 ^ k : Nat) : Int) := by simp
  rw [e, Int.tmod_eq_emod_of_nonneg (Int.natCast_nonneg _)]
  simp
theorem oct_bit {q : Nat} (h : q < 8) : (0 : Int) ≤ 2 ^ q ∧ (2 : Int) ^ q < 256 := by
  have key : ∀ q : Fin 8, (0 : Int) ≤ 2 ^ (q : Nat) ∧ (2 : Int) ^ (q : Nat) < 256 := by decide
  exact key ⟨q, h⟩
end Go.Proofs.Ytedjicimgalneaa
