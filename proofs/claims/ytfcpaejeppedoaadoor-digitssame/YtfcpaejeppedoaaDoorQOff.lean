/-
  The walk of the program's takeOff: one digit of a quotient, and what is left behind it.
-/
import Derived.Test.YtfcpaejeppedoaaDoorQGuess
import Derived.Test.YtfcpaejeppedoaaDoorQRow
namespace Go.Proofs.YtfcpaejeppedoaaDoor
open Go.RowKit

theorem take_same {P P' : List Int} {i : Nat} (hl : P'.length = P.length) (h : ∀ j, j < i → P'[j]?.getD 0 = P[j]?.getD 0) : P'.take i = P.take i := by
  refine List.ext_getElem? fun j => ?_
  rw [List.getElem?_take, List.getElem?_take]
  split
  · rename_i hj
    by_cases hp : j < P.length
    · have := h j hj
      rw [List.getElem?_eq_getElem hp, List.getElem?_eq_getElem (by omega)] at this ⊢
      exact congrArg some this
    · rw [List.getElem?_eq_none (by omega), List.getElem?_eq_none (by omega)]
  · rfl
theorem val_split (P : List Int) {i : Nat} (h : i ≤ P.length) : val P = val (P.take i) + pw i * val (P.drop i) := by
  have := val_append (P.take i) (P.drop i)
  rwa [List.take_append_drop, List.length_take, Nat.min_eq_left h] at this
theorem drop_getD (P : List Int) (i j : Nat) : (P.drop i)[j]?.getD 0 = P[i + j]?.getD 0 := by rw [List.getElem?_drop]
/-- The highest digit apart, where all above it are noughts. -/
theorem val_high {L : List Int} {n : Nat} (h : n < L.length) (hz : ∀ j, n < j → L[j]?.getD 0 = 0) : val L = val (L.take n) + pw n * L[n]?.getD 0 := by
  rw [← val_take_succ L n h]
  exact (val_take fun j hj _ => hz j (by omega)).symm
/-- A list, cut at i and at i + n. -/
theorem off_split {P P' : List Int} {i n : Nat} (hw : Words P') (hl : P'.length = P.length) (h : i + n < P.length) (low : ∀ j, j < i → P'[j]?.getD 0 = P[j]?.getD 0) (high : ∀ j, i + n < j → P'[j]?.getD 0 = 0) :
    ∃ R, 0 ≤ R ∧ R < pw n ∧ val P' = val (P.take i) + pw i * (R + pw n * P'[i + n]?.getD 0) := by
  refine ⟨val ((P'.drop i).take n), val_nonneg ((hw.drop i).take n), ?_, ?_⟩
  · have := val_lt ((hw.drop i).take n)
    rwa [List.length_take, List.length_drop, Nat.min_eq_left (by omega)] at this
  · rw [val_split P' (i := i) (by omega), take_same hl low, val_high (L := P'.drop i) (n := n) (by rw [List.length_drop]; omega) (fun j hj => by rw [drop_getD]; exact high _ (by omega)), drop_getD]
theorem mul_cancel_pos {p a b : Int} (hp : 0 < p) (h : p * a = p * b) : a = b := Int.eq_of_mul_eq_mul_left (by omega) h
theorem top_small {x y n : Int} (hn : 0 < n) (h1 : 0 ≤ x) (h2 : x < n) (h3 : 0 ≤ x + n * y) (h4 : x + n * y < n) : y = 0 := by
  refine Classical.byContradiction fun hc => ?_
  rcases (show y ≤ -1 ∨ 1 ≤ y by omega) with h | h
  · have := Int.mul_le_mul_of_nonneg_left h (Int.le_of_lt hn); omega
  · have := Int.mul_le_mul_of_nonneg_left h (Int.le_of_lt hn); omega
/-- What is left by a guess that is right. -/
theorem off_right {U V q R u2 c n : Int} (hn : 0 < n) (hv : 0 < V) (hV : V ≤ n) (h1 : U / V ≤ q) (h2 : q ≤ U / V + 1) (hR : 0 ≤ R ∧ R < n) (e : R + n * u2 - n * c = U - q * V) (hc : c ≤ u2) : q = U / V ∧ u2 = c := by
  have d := Int.mul_le_mul_of_nonneg_left hc (Int.le_of_lt hn)
  obtain ⟨rfl, h4⟩ := (quot_left hv h1 h2).1 (by omega)
  refine ⟨rfl, ?_⟩
  have := top_small (y := u2 - c) hn hR.1 hR.2 (by rw [Int.mul_sub]; omega) (by rw [Int.mul_sub]; omega)
  omega
/-- What is left by a guess that is one too great, when one divisor is given back. -/
theorem off_wrong {U V q R R3 u2 c c' n : Int} (hn : 0 < n) (hv : 0 < V) (hV : V ≤ n) (h1 : U / V ≤ q) (h2 : q ≤ U / V + 1) (hR : 0 ≤ R ∧ R < n) (e : R + n * u2 - n * c = U - q * V) (hc : u2 < c) (hR3 : 0 ≤ R3 ∧ R3 < n) (e3 : R3 + n * c' = R + V) : q = U / V + 1 ∧ c' + u2 = c := by
  have d := Int.mul_le_mul_of_nonneg_left (show u2 + 1 ≤ c by omega) (Int.le_of_lt hn)
  rw [Int.mul_add] at d
  obtain ⟨rfl, h4, h5⟩ := (quot_left hv h1 h2).2 (by omega)
  refine ⟨rfl, ?_⟩
  have := top_small (y := c' + u2 - c) hn hR3.1 hR3.2 (by rw [Int.mul_sub, Int.mul_add]; omega) (by rw [Int.mul_sub, Int.mul_add]; omega)
  omega
/-- The guess's premises, off the digits. -/
theorem guess_of {L ys : List Int} {k : Nat} (hL : Words L) (hy : Words ys) (hl : k + 2 < L.length) (hyl : ys.length = k + 2) (hz : ∀ j, k + 2 < j → L[j]?.getD 0 = 0) (htop : 9223372036854775808 ≤ ys[k + 1]?.getD 0) (hfit : val L < val ys * 18446744073709551616) :
    Guess (val L) (val ys) ((L[k + 2]?.getD 0 * 18446744073709551616 + L[k + 1]?.getD 0) * 18446744073709551616 + L[k]?.getD 0) (ys[k + 1]?.getD 0 * 18446744073709551616 + ys[k]?.getD 0) (pw k) (val (L.take k)) (val (ys.take k))
      (L[k + 2]?.getD 0) (L[k + 1]?.getD 0) (L[k]?.getD 0) (ys[k + 1]?.getD 0) (ys[k]?.getD 0) where
  eu := by
    rw [val_high hl hz, val_take_succ L (k + 1) (by omega), val_take_succ L k (by omega), pw_succ (k + 1), pw_succ k, Int.add_mul, Int.add_mul, Int.add_mul]
    simp only [Int.mul_assoc, Int.mul_comm (pw k)]
    rw [Int.mul_left_comm (L[k + 1]?.getD 0), Int.mul_left_comm (L[k + 2]?.getD 0), Int.mul_left_comm (L[k + 2]?.getD 0)]
    omega
  ev := by
    rw [show val ys = val (ys.take (k + 2)) by rw [List.take_of_length_le (by omega)], val_take_succ ys (k + 1) (by omega), val_take_succ ys k (by omega), pw_succ, Int.add_mul]
    simp only [Int.mul_assoc, Int.mul_comm (pw k)]
    rw [Int.mul_left_comm (ys[k + 1]?.getD 0)]
    omega
  eU := rfl
  eV := rfl
  S0 := pw_pos k
  ru0 := val_nonneg (hL.take k)
  ru1 := by have := val_lt (hL.take k); rwa [List.length_take, Nat.min_eq_left (by omega)] at this
  rv0 := val_nonneg (hy.take k)
  rv1 := by have := val_lt (hy.take k); rwa [List.length_take, Nat.min_eq_left (by omega)] at this
  hu2 := (hL.getD _).1
  hu1 := (hL.getD _).1
  hu1' := (hL.getD _).2
  hu0 := (hL.getD _).1
  hu0' := (hL.getD _).2
  hv1 := htop
  hv1' := (hy.getD _).2
  hv0 := (hy.getD _).1
  hv0' := (hy.getD _).2
  fit := hfit

set_option maxRecDepth 100000 in
set_option maxHeartbeats 2000000 in
/-- takeOff(left, divisor), where left is a list from its place i on. -/
theorem takeOff_any {lo lo' : Nat} {W : World} {b off len cap i cl k : Nat} {an : Option Addr} {cn : Nat} {P ys : List Int} (hn : Seg lo' W (.slice an (k + 2) cn) ys) (hsep : ∀ g o, an = some ⟨g, o, none⟩ → g ≠ b)
    (hP : Seg lo W (.slice (some ⟨b, off, none⟩) len cap) P) (him : i + (k + 3) ≤ len) (hlen : len ≤ 20000) (htop : 9223372036854775808 ≤ ys[k + 1]?.getD 0) (hz : ∀ j, i + (k + 3) ≤ j → P[j]?.getD 0 = 0) (hfit : val (P.drop i) < val ys * 18446744073709551616) :
    Calls Tryd.prog 78 #[.slice (some ⟨b, off + i, none⟩) (k + 3) cl, .slice an (k + 2) cn] W fun e W' => ∃ P', e = .returned (.int .u64 (val (P.drop i) / val ys)) ∧ Seg lo W' (.slice (some ⟨b, off, none⟩) len cap) P' ∧
      val P' = val P - pw i * (val (P.drop i) / val ys * val ys) ∧ (∀ j, i + (k + 2) ≤ j → P'[j]?.getD 0 = 0) ∧ (∀ j, j < i → P'[j]?.getD 0 = P[j]?.getD 0) ∧ (0 ≤ val (P.drop i) / val ys ∧ val (P.drop i) / val ys < 18446744073709551616) ∧ Turns b W W' := by
  have hwy := hn.words
  have hwP := hP.words
  have hPl := hP.len.1
  have hyl := hn.len.1.symm
  have hG := guess_of (L := P.drop i) (k := k) (hwP.drop i) hwy (by rw [List.length_drop]; omega) hyl (fun j hj => by rw [drop_getD]; exact hz _ (by omega)) htop hfit
  rw [drop_getD, drop_getD, drop_getD] at hG
  have hV := val_lt hwy
  rw [hyl] at hV
  obtain ⟨R0, hR0, hR0', eP⟩ := off_split (P := P) (P' := P) (i := i) (n := k + 2) hwP rfl (by omega) (fun _ _ => rfl) (fun j hj => hz j (by omega))
  have hUe : val (P.drop i) = R0 + pw (k + 2) * P[i + (k + 2)]?.getD 0 := by
    have := val_split P (i := i) (by omega)
    exact mul_cancel_pos (pw_pos i) (by omega)
  obtain ⟨g, o2, rfl, _, hg2⟩ := hn.row (by omega)
  have hgs := guess_any (W := W) (b := b) (o := off + i) (cl := cl) (g := g) (p := o2) (cn := cn) (k := k) hG (by omega) (by have := (hP.cell (j := i + (k + 2)) (by omega)).1; rwa [← Nat.add_assoc] at this)
    (by have := (hP.cell (j := i + (k + 1)) (by omega)).1; rwa [← Nat.add_assoc] at this) (by have := (hP.cell (j := i + k) (by omega)).1; rwa [← Nat.add_assoc] at this) (hn.cell (j := k + 1) (by omega)).1 (hn.cell (j := k) (by omega)).1
  have hdig := hG.digit
  have hvp := hG.vpos.1
  have hbW : b ≤ W.heap.size := by obtain ⟨b', o', e, _, h1⟩ := hP.row (by omega); cases e; omega
  have HG := hide hG
  obtain ⟨U, hU⟩ : ∃ U, val (P.drop i) = U := ⟨_, rfl⟩
  obtain ⟨V, hVV⟩ : ∃ V, val ys = V := ⟨_, rfl⟩
  rw [hU] at hUe hdig hgs ⊢
  rw [hVV] at hV hdig hvp hgs ⊢
  have HP := hide eP
  have HU := hide hUe
  have HZ := hide hz
  have HY := hide hyl
  clear eP hUe hz hG htop hfit hU
  go_enter Tryd.func78, Tryd.ntmps78
  go_wp2_with fail
  refine hgs.mono ?_
  rintro e w1 ⟨q, rfl, hq, hq1, hq2, hb1⟩
  have hb01 : Turns b W w1 := Turns.of_below hbW hb1
  have hn1 := hn.below hb1
  have hP1 := hP.below hb1
  have ht := takeRow_any (i := i) (l := k + 3) (cl := cl) (x := q) (by rw [HY.out]; exact hn1) hsep hP1 (by rw [HY.out]; omega) him hq hlen
  rw [HY.out] at ht
  clear hgs
  go_wp2_with fail
  refine ht.mono ?_
  rintro e w2 ⟨c, P1, rfl, hc, hS1, e1, hkeep, hb12⟩
  have hb2 := hb01.trans hb12
  have hn2 := hn1.turns hb12 (hsep _ _ rfl)
  have hw1 := hS1.words
  have hl1 : P1.length = P.length := by have := hS1.len.1; omega
  have hu2 := hkeep (i + (k + 2)) (.inr (Nat.le_refl _))
  obtain ⟨R1, hR1, hR1', eP1⟩ := off_split (P := P) (P' := P1) (i := i) (n := k + 2) hw1 hl1 (by omega) (fun j hj => hkeep j (.inl hj)) (fun j hj => (hkeep j (.inr (by omega))).trans (HZ.out j (by omega)))
  rw [hu2] at eP1
  obtain ⟨hcl, hfl⟩ := hS1.cell (j := i + (k + 2)) (by omega)
  rw [hu2] at hcl
  rw [← Nat.add_assoc] at hcl hfl
  have hu2w := hwP.getD (i + (k + 2))
  have HS := hide (hS1.set (k := i + (k + 2)) (x := 0) (by omega) (by decide))
  rw [← Nat.add_assoc] at HS
  have hset := val_set (ss := P1) (k := i + (k + 2)) (by omega) 0
  rw [hu2] at hset
  have e1' := e1
  rw [hVV] at e1'
  obtain ⟨u2, hu2e⟩ : ∃ u2, P[i + (k + 2)]?.getD 0 = u2 := ⟨_, rfl⟩
  have HPe := HP.out
  have HUe := HU.out
  rw [hu2e] at hcl hu2w hset eP1 HPe HUe hu2
  have key : R1 + pw (k + 2) * u2 - pw (k + 2) * c = U - q * V := by
    refine mul_cancel_pos (pw_pos i) ?_
    rw [Int.mul_sub, Int.mul_sub]
    rw [pw_add] at e1'
    rw [HPe, eP1] at e1'
    rw [← HUe, Int.mul_assoc] at e1'
    rw [← Int.mul_assoc (pw i) (pw (k + 2)) c]
    rw [← Int.mul_assoc] at e1'
    omega
  have hfr2 : ∀ j, j < i → (P1.set (i + (k + 2)) 0)[j]?.getD 0 = P[j]?.getD 0 := fun j hj => by rw [List.getElem?_set_ne (by omega)]; exact hkeep j (.inl hj)
  have hzz : ∀ j, i + (k + 2) ≤ j → (P1.set (i + (k + 2)) 0)[j]?.getD 0 = 0 := fun j hj => by
    by_cases h : j = i + (k + 2)
    · subst h; rw [List.getElem?_set_self (by omega)]; rfl
    · rw [List.getElem?_set_ne (by omega), hkeep j (.inr (by omega))]; exact HZ.out j (by omega)
  have HE1 := hide e1'
  have HSET := hide hset
  have HF := hide hfr2
  have HZZ := hide hzz
  have HK := hide key
  have HP1 := hide eP1
  have HF1 : Hid (∀ j, j < i → P1[j]?.getD 0 = P[j]?.getD 0) := fun j hj => hkeep j (.inl hj)
  have HZ1 : Hid (∀ j, i + (k + 2) < j → P1[j]?.getD 0 = 0) := fun j hj => (hkeep j (.inr (by omega))).trans (HZ.out j (by omega))
  clear e1 e1' hset hkeep eP1 HPe HUe hfr2 hzz key hu2e
  by_cases hcu : u2 < c
  · have hd := Int.mul_le_mul_of_nonneg_left (show u2 + 1 ≤ c by omega) (Int.le_of_lt (pw_pos (k + 2)))
    rw [Int.mul_add] at hd
    obtain ⟨e2, -, -⟩ := (quot_left hvp hq1 hq2).2 (by have := HK.out; omega)
    have HQ := hide e2
    have hw1 : IntKind.u64.wrap (q - 1) = q - 1 := by rw [IntKind.wrap_u64]; omega
    have hgb := giveBack_any (i := i) (l := k + 3) (cl := cl) (by rw [HY.out]; exact hn2) hsep hS1 (by rw [HY.out]; omega) him hlen
    rw [HY.out] at hgb
    clear e2 hd HS HSET HF HZZ
    have HU2 := hide hu2
    clear hu2
    go_wp2_with fail
    refine hgb.mono ?_
    rintro e w3 ⟨c', P2, rfl, hS2, e4, hkeep2, hb23⟩
    have hb3 := hb2.trans hb23
    have hl2 : P2.length = P.length := by have := hS2.len.1; omega
    have hu3 := (hkeep2 (i + (k + 2)) (.inr (Nat.le_refl _))).trans HU2.out
    obtain ⟨R3, hR3, hR3', eP2⟩ := off_split (P := P) (P' := P2) (i := i) (n := k + 2) hS2.words hl2 (by omega) (fun j hj => (hkeep2 j (.inl hj)).trans (HF1.out j hj)) (fun j hj => (hkeep2 j (.inr (by omega))).trans (HZ1.out j (by omega)))
    obtain ⟨hcl2, hfl2⟩ := hS2.cell (j := i + (k + 2)) (by omega)
    rw [hu3] at hcl2 eP2
    rw [← Nat.add_assoc] at hcl2 hfl2
    have HS := hide (hS2.set (k := i + (k + 2)) (x := 0) (by omega) (by decide))
    rw [← Nat.add_assoc] at HS
    have hset := val_set (ss := P2) (k := i + (k + 2)) (by omega) 0
    rw [hu3] at hset
    rw [hVV] at e4
    have e5 : R3 + pw (k + 2) * c' = R1 + V := by
      refine mul_cancel_pos (pw_pos i) ?_
      rw [pw_add, HP1.out, eP2] at e4
      rw [Int.mul_add, Int.mul_add]
      rw [Int.mul_add, Int.mul_add] at e4
      rw [Int.mul_assoc] at e4
      omega
    obtain ⟨-, e6⟩ := off_wrong (pw_pos (k + 2)) hvp (Int.le_of_lt hV) hq1 hq2 ⟨hR1, hR1'⟩ HK.out hcu ⟨hR3, hR3'⟩ e5
    have hfin : val (P2.set (i + (k + 2)) 0) = val P - pw i * (U / V * V) := by
      have h1 := HE1.out
      have h2 : q * V = U / V * V + V := by rw [HQ.out, Int.add_mul, Int.one_mul]
      rw [h2, Int.mul_add] at h1
      rw [hset, Int.zero_sub, Int.mul_neg]
      rw [← e6, Int.mul_add] at h1
      omega
    have HFin := hide hfin
    have HZZ : Hid (∀ j, i + (k + 2) ≤ j → (P2.set (i + (k + 2)) 0)[j]?.getD 0 = 0) := fun j hj => by
      by_cases h : j = i + (k + 2)
      · subst h; rw [List.getElem?_set_self (by omega)]; rfl
      · rw [List.getElem?_set_ne (by omega), hkeep2 j (.inr (by omega))]; exact HZ1.out j (by omega)
    have HFF : Hid (∀ j, j < i → (P2.set (i + (k + 2)) 0)[j]?.getD 0 = P[j]?.getD 0) := fun j hj => by
      rw [List.getElem?_set_ne (by omega), hkeep2 j (.inl hj)]; exact HF1.out j hj
    clear hset hfin hkeep2 eP2 e4 e5 e6 hu3
    go_wp2
    go_ret
    exact ⟨_, ret_int (by have := HQ.out; omega), HS.out, HFin.out, HZZ.out, HFF.out, by omega, hb3.setCell (off + i + (k + 2)) _⟩
  · obtain ⟨e2, e3⟩ := off_right (pw_pos (k + 2)) hvp (Int.le_of_lt hV) hq1 hq2 ⟨hR1, hR1'⟩ HK.out (by omega)
    have HQ := hide e2
    have HC := hide e3
    clear e2 e3
    go_wp2
    go_ret
    refine ⟨_, ret_int HQ.out, HS.out, ?_, HZZ.out, HF.out, by omega, hb2.setCell (off + i + (k + 2)) _⟩
    rw [HSET.out, ← HQ.out]
    have h1 := HE1.out
    rw [HC.out, Int.zero_sub, Int.mul_neg]
    omega
end Go.Proofs.YtfcpaejeppedoaaDoor
