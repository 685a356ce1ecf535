/-
  The words of layer 9's laws: both Opens of any bytes, opened, awake.
-/
import Derived.Test.YtedjicimgalneaaJCTab
import Derived.Lib.SlBytesConst
namespace Go.Proofs.Ytedjicimgalneaa
open Go.RowKit

/-- What Open answers to any bytes. -/
def openB (f : Nat → Nat) (bs : List Int) : List Int × Int := if bs.length < 4 then ([], 7) else openZ f (bs.take (bs.length - 4)) (bs.drop (bs.length - 4))
theorem openB_append (f : Nat → Nat) (zs ys : List Int) (h : ys.length = 4) : openB f (zs ++ ys) = openZ f zs ys := by
  unfold openB
  rw [if_neg (by rw [List.length_append]; omega)]
  have : (zs ++ ys).length - 4 = zs.length := by rw [List.length_append]; omega
  rw [this, List.take_left, List.drop_left]
theorem openB_short (f : Nat → Nat) {bs : List Int} (h : bs.length < 4) : openB f bs = ([], 7) := if_pos h
theorem openB_sealed (f : Nat → Nat) (zs : List Int) : openB f (zs ++ le4 (sumBy f zs)) = (zs, 0) := by rw [openB_append _ _ _ rfl]; exact if_pos rfl
theorem parts4 {bs : List Int} {m : Nat} (h : bs.length = m + 4) : ∃ zs ys, bs = zs ++ ys ∧ zs.length = m ∧ ys.length = 4 := ⟨bs.take m, bs.drop m, (List.take_append_drop m bs).symm, by rw [List.length_take]; omega, by rw [List.length_drop]; omega⟩
theorem copen_any {lo : Nat} {p : Option Addr} {f : Nat → Nat} {a : Option Addr} {n c : Nat} {bs : List Int} {w : World} (T : PT w p f) (hf : Nums f) (X : Byt lo w (.slice a n c) bs) (hl : n ≤ 900000) :
    Calls Try.prog 40 #[.pointer p, .slice a n c] w (OpSaid (openB f bs).1 (openB f bs).2 w) := by
  have hn := X.len.1
  by_cases h : n < 4
  · rw [openB_short f (by omega)]
    refine (copen_short p a n c w h).mono ?_
    rintro e w' ⟨rfl, rfl⟩
    exact opsaid_none rfl (Below.refl _ _)
  · obtain ⟨q, o, rfl, _, _⟩ := X.row (by omega)
    obtain ⟨m, rfl⟩ : ∃ m, n = m + 4 := ⟨n - 4, by omega⟩
    obtain ⟨zs, ys, rfl, hz, hy⟩ := parts4 hn.symm
    rw [openB_append f zs ys hy]
    exact copen_some T hf X hz hy (by omega)
end Go.Proofs.Ytedjicimgalneaa
