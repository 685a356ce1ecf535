/-
  Joined: QOff QLong QuotC Halves RMul.
-/
import Derived.Test.YtejocefblpkdjabGreatQGuess
import Derived.Test.YtejocefblpkdjabGreatQRow
import Derived.Test.YtejocefblpkdjabGreatQPart
import Derived.Test.YtejocefblpkdjabGreatJEnds
import Derived.Test.YtejocefblpkdjabGreatJDown
import Derived.Test.YtejocefblpkdjabGreatJLenOf
import Derived.Test.YtejocefblpkdjabGreatJRDiv
import Derived.Deep.RegionWith
import Derived.Test.YtejocefblpkdjabGreatJoin
import Derived.Deep.RegionHeld3
import Derived.Deep.CutRange
import Derived.Test.YtejocefblpkdjabGreatJRefA
import Derived.Test.YtejocefblpkdjabGreatProd
import Derived.Deep.AppendSrc
import Derived.Deep.RegionLaw
namespace Go.Proofs.YtejocefblpkdjabGreat
open Go.RowKit
theorem take_same {P P' : List Int} {i : Nat} (hl : P'.length = P.length) (h : ∀ j, j < i → P'[j]?.getD 0 = P[j]?.getD 0) : P'.take i = P.take i := by
  refine List.ext_getElem? fun j => ?_
  rw [List.getElem?_take, List.getElem?_take]
  split
  · rename_i hj
    by_cases hp : j < P.length
    · have := h j hj
      rw [List.getElem?_eq_getElem hp, List.getElem?_eq_getElem (by omega)] at this ⊢
      exact congrArg some this
    · rw [List.getElem?_eq_none (by omega), List.getElem?_eq_none (by omega)]
  · rfl
theorem val_split (P : List Int) {i : Nat} (h : i ≤ P.length) : val P = val (P.take i) + pw i * val (P.drop i) := by
  have := val_append (P.take i) (P.drop i)
  rwa [List.take_append_drop, List.length_take, Nat.min_eq_left h] at this
theorem drop_getD (P : List Int) (i j : Nat) : (P.drop i)[j]?.getD 0 = P[i + j]?.getD 0 := by rw [List.getElem?_drop]
theorem val_high {L : List Int} {n : Nat} (h : n < L.length) (hz : ∀ j, n < j → L[j]?.getD 0 = 0) : val L = val (L.take n) + pw n * L[n]?.getD 0 := by
  rw [← val_take_succ L n h]
  exact (val_take fun j hj _ => hz j (by omega)).symm
theorem off_split {P P' : List Int} {i n : Nat} (hw : Words P') (hl : P'.length = P.length) (h : i + n < P.length) (low : ∀ j, j < i → P'[j]?.getD 0 = P[j]?.getD 0) (high : ∀ j, i + n < j → P'[j]?.getD 0 = 0) :
    ∃ R, 0 ≤ R ∧ R < pw n ∧ val P' = val (P.take i) + pw i * (R + pw n * P'[i + n]?.getD 0) := by
  refine ⟨val ((P'.drop i).take n), val_nonneg ((hw.drop i).take n), ?_, ?_⟩
  · have := val_lt ((hw.drop i).take n)
    rwa [List.length_take, List.length_drop, Nat.min_eq_left (by omega)] at this
  · rw [val_split P' (i := i) (by omega), take_same hl low, val_high (L := P'.drop i) (n := n) (by rw [List.length_drop]; omega) (fun j hj => by rw [drop_getD]; exact high _ (by omega)), drop_getD]
theorem mul_cancel_pos {p a b : Int} (hp : 0 < p) (h : p * a = p * b) : a = b := Int.eq_of_mul_eq_mul_left (by omega) h
theorem top_small {x y n : Int} (hn : 0 < n) (h1 : 0 ≤ x) (h2 : x < n) (h3 : 0 ≤ x + n * y) (h4 : x + n * y < n) : y = 0 := by
  refine Classical.byContradiction fun hc => ?_
  rcases (show y ≤ -1 ∨ 1 ≤ y by omega) with h | h
  · have := Int.mul_le_mul_of_nonneg_left h (Int.le_of_lt hn); omega
  · have := Int.mul_le_mul_of_nonneg_left h (Int.le_of_lt hn); omega
theorem off_right {U V q R u2 c n : Int} (hn : 0 < n) (hv : 0 < V) (hV : V ≤ n) (h1 : U / V ≤ q) (h2 : q ≤ U / V + 1) (hR : 0 ≤ R ∧ R < n) (e : R + n * u2 - n * c = U - q * V) (hc : c ≤ u2) : q = U / V ∧ u2 = c := by
  have d := Int.mul_le_mul_of_nonneg_left hc (Int.le_of_lt hn)
  obtain ⟨rfl, h4⟩ := (quot_left hv h1 h2).1 (by omega)
  refine ⟨rfl, ?_⟩
  have := top_small (y := u2 - c) hn hR.1 hR.2 (by rw [Int.mul_sub]; omega) (by rw [Int.mul_sub]; omega)
  omega
theorem off_wrong {U V q R R3 u2 c c' n : Int} (hn : 0 < n) (hv : 0 < V) (hV : V ≤ n) (h1 : U / V ≤ q) (h2 : q ≤ U / V + 1) (hR : 0 ≤ R ∧ R < n) (e : R + n * u2 - n * c = U - q * V) (hc : u2 < c) (hR3 : 0 ≤ R3 ∧ R3 < n) (e3 : R3 + n * c' = R + V) : q = U / V + 1 ∧ c' + u2 = c := by
  have d := Int.mul_le_mul_of_nonneg_left (show u2 + 1 ≤ c by omega) (Int.le_of_lt hn)
  rw [Int.mul_add] at d
  obtain ⟨rfl, h4, h5⟩ := (quot_left hv h1 h2).2 (by omega)
  refine ⟨rfl, ?_⟩
  have := top_small (y := c' + u2 - c) hn hR3.1 hR3.2 (by rw [Int.mul_sub, Int.mul_add]; omega) (by rw [Int.mul_sub, Int.mul_add]; omega)
  omega
theorem guess_of {L ys : List Int} {k : Nat} (hL : Words L) (hy : Words ys) (hl : k + 2 < L.length) (hyl : ys.length = k + 2) (hz : ∀ j, k + 2 < j → L[j]?.getD 0 = 0) (htop : 9223372036854775808 ≤ ys[k + 1]?.getD 0) (hfit : val L < val ys * 18446744073709551616) :
    Guess (val L) (val ys) ((L[k + 2]?.getD 0 * 18446744073709551616 + L[k + 1]?.getD 0) * 18446744073709551616 + L[k]?.getD 0) (ys[k + 1]?.getD 0 * 18446744073709551616 + ys[k]?.getD 0) (pw k) (val (L.take k)) (val (ys.take k))
      (L[k + 2]?.getD 0) (L[k + 1]?.getD 0) (L[k]?.getD 0) (ys[k + 1]?.getD 0) (ys[k]?.getD 0) where
  eu := by
    rw [val_high hl hz, val_take_succ L (k + 1) (by omega), val_take_succ L k (by omega), pw_succ (k + 1), pw_succ k, Int.add_mul, Int.add_mul, Int.add_mul]
    simp only [Int.mul_assoc, Int.mul_comm (pw k)]
    rw [Int.mul_left_comm (L[k + 1]?.getD 0), Int.mul_left_comm (L[k + 2]?.getD 0), Int.mul_left_comm (L[k + 2]?.getD 0)]
    omega
  ev := by
    rw [show val ys = val (ys.take (k + 2)) by rw [List.take_of_length_le (by omega)], val_take_succ ys (k + 1) (by omega), val_take_succ ys k (by omega), pw_succ, Int.add_mul]
    simp only [Int.mul_assoc, Int.mul_comm (pw k)]
    rw [Int.mul_left_comm (ys[k + 1]?.getD 0)]
    omega
  eU := rfl
  eV := rfl
  S0 := pw_pos k
  ru0 := val_nonneg (hL.take k)
  ru1 := by have := val_lt (hL.take k); rwa [List.length_take, Nat.min_eq_left (by omega)] at this
  rv0 := val_nonneg (hy.take k)
  rv1 := by have := val_lt (hy.take k); rwa [List.length_take, Nat.min_eq_left (by omega)] at this
  hu2 := (hL.getD _).1
  hu1 := (hL.getD _).1
  hu1' := (hL.getD _).2
  hu0 := (hL.getD _).1
  hu0' := (hL.getD _).2
  hv1 := htop
  hv1' := (hy.getD _).2
  hv0 := (hy.getD _).1
  hv0' := (hy.getD _).2
  fit := hfit
set_option maxRecDepth 100000 in
set_option maxHeartbeats 2000000 in
theorem takeOff_any {lo lo' : Nat} {W : World} {b off len cap i cl k : Nat} {an : Option Addr} {cn : Nat} {P ys : List Int} (hn : Seg lo' W (.slice an (k + 2) cn) ys) (hsep : ∀ g o, an = some ⟨g, o, none⟩ → g ≠ b)
    (hP : Seg lo W (.slice (some ⟨b, off, none⟩) len cap) P) (him : i + (k + 3) ≤ len) (hlen : len ≤ 20000) (htop : 9223372036854775808 ≤ ys[k + 1]?.getD 0) (hz : ∀ j, i + (k + 3) ≤ j → P[j]?.getD 0 = 0) (hfit : val (P.drop i) < val ys * 18446744073709551616) :
    Calls Tryz.prog 82 #[.slice (some ⟨b, off + i, none⟩) (k + 3) cl, .slice an (k + 2) cn] W fun e W' => ∃ P', e = .returned (.int .u64 (val (P.drop i) / val ys)) ∧ Seg lo W' (.slice (some ⟨b, off, none⟩) len cap) P' ∧
      val P' = val P - pw i * (val (P.drop i) / val ys * val ys) ∧ (∀ j, i + (k + 2) ≤ j → P'[j]?.getD 0 = 0) ∧ (∀ j, j < i → P'[j]?.getD 0 = P[j]?.getD 0) ∧ (0 ≤ val (P.drop i) / val ys ∧ val (P.drop i) / val ys < 18446744073709551616) ∧ Turns b W W' := by
  have hwy := hn.words
  have hwP := hP.words
  have hPl := hP.len.1
  have hyl := hn.len.1.symm
  have hG := guess_of (L := P.drop i) (k := k) (hwP.drop i) hwy (by rw [List.length_drop]; omega) hyl (fun j hj => by rw [drop_getD]; exact hz _ (by omega)) htop hfit
  rw [drop_getD, drop_getD, drop_getD] at hG
  have hV := val_lt hwy
  rw [hyl] at hV
  obtain ⟨R0, hR0, hR0', eP⟩ := off_split (P := P) (P' := P) (i := i) (n := k + 2) hwP rfl (by omega) (fun _ _ => rfl) (fun j hj => hz j (by omega))
  have hUe : val (P.drop i) = R0 + pw (k + 2) * P[i + (k + 2)]?.getD 0 := by
    have := val_split P (i := i) (by omega)
    exact mul_cancel_pos (pw_pos i) (by omega)
  obtain ⟨g, o2, rfl, _, hg2⟩ := hn.row (by omega)
  have hgs := guess_any (W := W) (b := b) (o := off + i) (cl := cl) (g := g) (p := o2) (cn := cn) (k := k) hG (by omega) (by have := (hP.cell (j := i + (k + 2)) (by omega)).1; rwa [← Nat.add_assoc] at this)
    (by have := (hP.cell (j := i + (k + 1)) (by omega)).1; rwa [← Nat.add_assoc] at this) (by have := (hP.cell (j := i + k) (by omega)).1; rwa [← Nat.add_assoc] at this) (hn.cell (j := k + 1) (by omega)).1 (hn.cell (j := k) (by omega)).1
  have hdig := hG.digit
  have hvp := hG.vpos.1
  have hbW : b ≤ W.heap.size := by obtain ⟨b', o', e, _, h1⟩ := hP.row (by omega); cases e; omega
  have HG := hide hG
  obtain ⟨U, hU⟩ : ∃ U, val (P.drop i) = U := ⟨_, rfl⟩
  obtain ⟨V, hVV⟩ : ∃ V, val ys = V := ⟨_, rfl⟩
  rw [hU] at hUe hdig hgs ⊢
  rw [hVV] at hV hdig hvp hgs ⊢
  have HP := hide eP
  have HU := hide hUe
  have HZ := hide hz
  have HY := hide hyl
  clear eP hUe hz hG htop hfit hU
  go_enter Tryz.func82, Tryz.ntmps82
  go_wp2_with fail
  refine hgs.mono ?_
  rintro e w1 ⟨q, rfl, hq, hq1, hq2, hb1⟩
  have hb01 : Turns b W w1 := Turns.of_below hbW hb1
  have hn1 := hn.below hb1
  have hP1 := hP.below hb1
  have ht := takeRow_any (i := i) (l := k + 3) (cl := cl) (x := q) (by rw [HY.out]; exact hn1) hsep hP1 (by rw [HY.out]; omega) him hq hlen
  rw [HY.out] at ht
  clear hgs
  go_wp2_with fail
  refine ht.mono ?_
  rintro e w2 ⟨c, P1, rfl, hc, hS1, e1, hkeep, hb12⟩
  have hb2 := hb01.trans hb12
  have hn2 := hn1.turns hb12 (hsep _ _ rfl)
  have hw1 := hS1.words
  have hl1 : P1.length = P.length := by have := hS1.len.1; omega
  have hu2 := hkeep (i + (k + 2)) (.inr (Nat.le_refl _))
  obtain ⟨R1, hR1, hR1', eP1⟩ := off_split (P := P) (P' := P1) (i := i) (n := k + 2) hw1 hl1 (by omega) (fun j hj => hkeep j (.inl hj)) (fun j hj => (hkeep j (.inr (by omega))).trans (HZ.out j (by omega)))
  rw [hu2] at eP1
  obtain ⟨hcl, hfl⟩ := hS1.cell (j := i + (k + 2)) (by omega)
  rw [hu2] at hcl
  rw [← Nat.add_assoc] at hcl hfl
  have hu2w := hwP.getD (i + (k + 2))
  have HS := hide (hS1.set (k := i + (k + 2)) (x := 0) (by omega) (by decide))
  rw [← Nat.add_assoc] at HS
  have hset := val_set (ss := P1) (k := i + (k + 2)) (by omega) 0
  rw [hu2] at hset
  have e1' := e1
  rw [hVV] at e1'
  obtain ⟨u2, hu2e⟩ : ∃ u2, P[i + (k + 2)]?.getD 0 = u2 := ⟨_, rfl⟩
  have HPe := HP.out
  have HUe := HU.out
  rw [hu2e] at hcl hu2w hset eP1 HPe HUe hu2
  have key : R1 + pw (k + 2) * u2 - pw (k + 2) * c = U - q * V := by
    refine mul_cancel_pos (pw_pos i) ?_
    rw [Int.mul_sub, Int.mul_sub]
    rw [pw_add] at e1'
    rw [HPe, eP1] at e1'
    rw [← HUe, Int.mul_assoc] at e1'
    rw [← Int.mul_assoc (pw i) (pw (k + 2)) c]
    rw [← Int.mul_assoc] at e1'
    omega
  have hfr2 : ∀ j, j < i → (P1.set (i + (k + 2)) 0)[j]?.getD 0 = P[j]?.getD 0 := fun j hj => by rw [List.getElem?_set_ne (by omega)]; exact hkeep j (.inl hj)
  have hzz : ∀ j, i + (k + 2) ≤ j → (P1.set (i + (k + 2)) 0)[j]?.getD 0 = 0 := fun j hj => by
    by_cases h : j = i + (k + 2)
    · subst h; rw [List.getElem?_set_self (by omega)]; rfl
    · rw [List.getElem?_set_ne (by omega), hkeep j (.inr (by omega))]; exact HZ.out j (by omega)
  have HE1 := hide e1'
  have HSET := hide hset
  have HF := hide hfr2
  have HZZ := hide hzz
  have HK := hide key
  have HP1 := hide eP1
  have HF1 : Hid (∀ j, j < i → P1[j]?.getD 0 = P[j]?.getD 0) := fun j hj => hkeep j (.inl hj)
  have HZ1 : Hid (∀ j, i + (k + 2) < j → P1[j]?.getD 0 = 0) := fun j hj => (hkeep j (.inr (by omega))).trans (HZ.out j (by omega))
  clear e1 e1' hset hkeep eP1 HPe HUe hfr2 hzz key hu2e
  by_cases hcu : u2 < c
  · have hd := Int.mul_le_mul_of_nonneg_left (show u2 + 1 ≤ c by omega) (Int.le_of_lt (pw_pos (k + 2)))
    rw [Int.mul_add] at hd
    obtain ⟨e2, -, -⟩ := (quot_left hvp hq1 hq2).2 (by have := HK.out; omega)
    have HQ := hide e2
    have hw1 : IntKind.u64.wrap (q - 1) = q - 1 := by rw [IntKind.wrap_u64]; omega
    have hgb := giveBack_any (i := i) (l := k + 3) (cl := cl) (by rw [HY.out]; exact hn2) hsep hS1 (by rw [HY.out]; omega) him hlen
    rw [HY.out] at hgb
    clear e2 hd HS HSET HF HZZ
    have HU2 := hide hu2
    clear hu2
    go_wp2_with fail
    refine hgb.mono ?_
    rintro e w3 ⟨c', P2, rfl, hS2, e4, hkeep2, hb23⟩
    have hb3 := hb2.trans hb23
    have hl2 : P2.length = P.length := by have := hS2.len.1; omega
    have hu3 := (hkeep2 (i + (k + 2)) (.inr (Nat.le_refl _))).trans HU2.out
    obtain ⟨R3, hR3, hR3', eP2⟩ := off_split (P := P) (P' := P2) (i := i) (n := k + 2) hS2.words hl2 (by omega) (fun j hj => (hkeep2 j (.inl hj)).trans (HF1.out j hj)) (fun j hj => (hkeep2 j (.inr (by omega))).trans (HZ1.out j (by omega)))
    obtain ⟨hcl2, hfl2⟩ := hS2.cell (j := i + (k + 2)) (by omega)
    rw [hu3] at hcl2 eP2
    rw [← Nat.add_assoc] at hcl2 hfl2
    have HS := hide (hS2.set (k := i + (k + 2)) (x := 0) (by omega) (by decide))
    rw [← Nat.add_assoc] at HS
    have hset := val_set (ss := P2) (k := i + (k + 2)) (by omega) 0
    rw [hu3] at hset
    rw [hVV] at e4
    have e5 : R3 + pw (k + 2) * c' = R1 + V := by
      refine mul_cancel_pos (pw_pos i) ?_
      rw [pw_add, HP1.out, eP2] at e4
      rw [Int.mul_add, Int.mul_add]
      rw [Int.mul_add, Int.mul_add] at e4
      rw [Int.mul_assoc] at e4
      omega
    obtain ⟨-, e6⟩ := off_wrong (pw_pos (k + 2)) hvp (Int.le_of_lt hV) hq1 hq2 ⟨hR1, hR1'⟩ HK.out hcu ⟨hR3, hR3'⟩ e5
    have hfin : val (P2.set (i + (k + 2)) 0) = val P - pw i * (U / V * V) := by
      have h1 := HE1.out
      have h2 : q * V = U / V * V + V := by rw [HQ.out, Int.add_mul, Int.one_mul]
      rw [h2, Int.mul_add] at h1
      rw [hset, Int.zero_sub, Int.mul_neg]
      rw [← e6, Int.mul_add] at h1
      omega
    have HFin := hide hfin
    have HZZ : Hid (∀ j, i + (k + 2) ≤ j → (P2.set (i + (k + 2)) 0)[j]?.getD 0 = 0) := fun j hj => by
      by_cases h : j = i + (k + 2)
      · subst h; rw [List.getElem?_set_self (by omega)]; rfl
      · rw [List.getElem?_set_ne (by omega), hkeep2 j (.inr (by omega))]; exact HZ1.out j (by omega)
    have HFF : Hid (∀ j, j < i → (P2.set (i + (k + 2)) 0)[j]?.getD 0 = P[j]?.getD 0) := fun j hj => by
      rw [List.getElem?_set_ne (by omega), hkeep2 j (.inl hj)]; exact HF1.out j hj
    clear hset hfin hkeep2 eP2 e4 e5 e6 hu3
    go_wp2
    go_ret
    exact ⟨_, ret_int (by have := HQ.out; omega), HS.out, HFin.out, HZZ.out, HFF.out, by omega, hb3.setCell (off + i + (k + 2)) _⟩
  · obtain ⟨e2, e3⟩ := off_right (pw_pos (k + 2)) hvp (Int.le_of_lt hV) hq1 hq2 ⟨hR1, hR1'⟩ HK.out (by omega)
    have HQ := hide e2
    have HC := hide e3
    clear e2 e3
    go_wp2
    go_ret
    refine ⟨_, ret_int HQ.out, HS.out, ?_, HZZ.out, HF.out, by omega, hb2.setCell (off + i + (k + 2)) _⟩
    rw [HSET.out, ← HQ.out]
    have h1 := HE1.out
    rw [HC.out, Int.zero_sub, Int.mul_neg]
    omega
end Go.Proofs.YtejocefblpkdjabGreat
namespace Go.Proofs.YtejocefblpkdjabGreat
open Go.RowKit Go.Shelf
attribute [local go_sem] Oper.semAt_some
theorem blen_moved {x : Int} (h : 0 < x) (s : Nat) : blen (x * 2 ^ s) = blen x + s := by
  obtain ⟨n, rfl⟩ := Int.eq_ofNat_of_zero_le (Int.le_of_lt h)
  have e : ((n : Int) * 2 ^ s).toNat = n * 2 ^ s := by
    rw [show (n : Int) * 2 ^ s = ((n * 2 ^ s : Nat) : Int) by rw [Int.natCast_mul, Int.natCast_pow]; rfl, Int.toNat_natCast]
  have hd : n * 2 ^ s / 2 ^ s = n := Nat.mul_div_cancel _ (Nat.two_pow_pos _)
  unfold blen
  rw [e, Go.bitLen_shift (n * 2 ^ s) s (by rw [hd]; omega), hd, Int.toNat_natCast, Nat.add_comm]
theorem top_bit {t : Int} (h0 : 0 ≤ t) (h : blen t = 64) : 9223372036854775808 ≤ t := by
  refine Classical.byContradiction fun hc => ?_
  unfold blen Go.bitLen at h
  split at h
  · omega
  · rename_i hz
    have := (Nat.log2_lt hz).2 (show t.toNat < 2 ^ 63 by omega)
    omega
theorem long_divisor {y : Int} {ds : List Int} {s : Nat} (hy : 18446744073709551616 ≤ y) (hs : (blen y + s) % 64 = 0) (hw : Words ds) (hn : Norm ds) (hv : val ds = y * 2 ^ s) : ∃ k, ds.length = k + 2 ∧ 9223372036854775808 ≤ ds[k + 1]?.getD 0 := by
  have hp : y ≤ val ds := by
    rw [hv]
    have := Int.mul_le_mul_of_nonneg_left (show (1 : Int) ≤ 2 ^ s from two_pos s) (show 0 ≤ y by omega)
    omega
  have hne : ds ≠ [] := by intro e; rw [e, val_nil] at hp; omega
  have hl : 2 ≤ ds.length := by
    rcases Nat.lt_or_ge ds.length 2 with h | h
    · have h1 := val_lt hw
      have h2 := pw_mono (show ds.length ≤ 1 by omega)
      rw [show pw 1 = 18446744073709551616 from rfl] at h2
      omega
    · exact h
  have hb := blen_words hw hn hne
  rw [hv, blen_moved (by omega)] at hb
  have c := hw.getD (ds.length - 1)
  have d := hn.resolve_left hne
  have b1 := blen_pos (x := ds[ds.length - 1]?.getD 0) (by omega)
  have b2 := blen_le _ c.1 c.2
  refine ⟨ds.length - 2, by omega, ?_⟩
  rw [show ds.length - 2 + 1 = ds.length - 1 by omega]
  exact top_bit c.1 (by omega)
theorem norm_len {xs ys : List Int} (hx : Words xs) (hy : Words ys) (hn : Norm xs) (h : val xs ≤ val ys) : xs.length ≤ ys.length := by
  rcases Nat.lt_or_ge ys.length xs.length with h1 | h1
  · have := norm_lt hy hx hn h1; omega
  · exact h1
theorem long_start {us ds : List Int} {k m : Nat} (hu : Words us) (hd : Words ds) (hl : ds.length = k + 2) (ht : 9223372036854775808 ≤ ds[k + 1]?.getD 0) (hm : m + (k + 2) = us.length + 1) : val us < pw m * val ds := by
  have h1 := val_lt hu
  have h2 := val_take_succ ds (k + 1) (by omega)
  rw [List.take_of_length_le (by omega)] at h2
  have h3 := val_nonneg (hd.take (k + 1))
  have h4 : pw (k + 1) * 1 ≤ pw (k + 1) * ds[k + 1]?.getD 0 := Int.mul_le_mul_of_nonneg_left (by omega) (Int.le_of_lt (pw_pos _))
  have h5 : pw m * pw (k + 1) ≤ pw m * val ds := Int.mul_le_mul_of_nonneg_left (by omega) (Int.le_of_lt (pw_pos _))
  rw [← pw_add, show m + (k + 1) = us.length by omega] at h5
  omega
theorem long_step {vP vP' vq L p U V q : Int} (hp : 0 < p) (hV : 0 < V) (hs : vP = L + p * U) (hL : L < p) (hq : U / V = q) (e : vP' = vP - p * (q * V)) : vP' < p * V ∧ vP' + (vq + p * q) * V = vP + vq * V := by
  subst hq
  have d := Int.emod_add_mul_ediv U V
  have m1 := Int.emod_lt_of_pos U hV
  have h1 : p * (U % V + 1) ≤ p * V := Int.mul_le_mul_of_nonneg_left (by omega) (Int.le_of_lt hp)
  have h2 : p * U = p * (U % V) + p * (U / V * V) := by
    rw [← Int.mul_add]; congr 1; rw [Int.mul_comm (U / V) V]; omega
  refine ⟨?_, ?_⟩
  · rw [Int.mul_add, Int.mul_one] at h1; omega
  · rw [Int.add_mul, Int.mul_assoc]; omega
set_option maxRecDepth 100000 in
set_option maxHeartbeats 400000 in
theorem long_any {lo lo' : Nat} {a b : Option Addr} {la lb ca cb : Nat} {xs ys : List Int} {w : World} (ha : Seg lo w (.slice a la ca) xs) (hb : Seg lo' w (.slice b lb cb) ys) (hla : xs.length ≤ 4000) (hlb : ys.length ≤ 4000) (hy : 18446744073709551616 ≤ val ys) (hxy : val ys ≤ val xs) :
    Calls Tryz.prog 67 #[.slice a la ca, .slice b lb cb] w fun e w' => ∃ (a1 a2 : Option Addr) (c1 c2 : Nat) (qs rs : List Int), e = .returned (.tuple #[.slice a1 qs.length c1, .slice a2 rs.length c2]) ∧ Seg w.heap.size w' (.slice a1 qs.length c1) qs ∧ Seg w.heap.size w' (.slice a2 rs.length c2) rs ∧ Norm qs ∧ Norm rs ∧ val qs = val xs / val ys ∧ val rs = val xs % val ys ∧ (∀ b1 o1 b2 o2, a1 = some ⟨b1, o1, none⟩ → a2 = some ⟨b2, o2, none⟩ → rs ≠ [] → b1 ≠ b2) ∧ Below w.heap.size w w' := by
  refine (callsIn_wide (n := 4)).1 ?_
  refine callsIn_of_wp_marks Tryz.func67 rfl trivial ?_ rfl
  simp only [Tryz.ntmps67, List.size_toArray, List.length_cons, List.length_nil, Nat.reduceAdd, Nat.reduceSub, Array.replicate_succ, Array.replicate_zero, List.push_toArray, List.append_toArray, List.nil_append, List.cons_append]
  have hwx := ha.words
  have hwy := hb.words
  obtain ⟨B, hB⟩ : ∃ B, blen (val ys) = B := ⟨_, rfl⟩
  have hlen := fun (W : World) (hW : Below w.heap.size w W) => len_any (hb.below hW) (by omega)
  rw [hB] at hlen
  obtain ⟨s, hs, hs64⟩ : ∃ s : Nat, ((64 : Int) - (B : Int) % 64) % 64 = (s : Int) ∧ s < 64 := ⟨(((64 : Int) - (B : Int) % 64) % 64).toNat, by omega, by omega⟩
  have hBs : (blen (val ys) + s) % 64 = 0 := by rw [hB]; omega
  have HBS := hide hBs
  clear hB hBs
  gi_wp2_with fail
  have hB0 : Below w.heap.size w ((w.alloc (.cells #[.slice none 0 0] 27)).alloc (.cells #[.slice none 0 0] 27)) := ((Below.refl _ w).alloc (Nat.le_refl _) _).alloc (by simp) _
  have bQ0 := (Boxed.new w 27 (.slice none 0 0)).alloc (.cells #[.slice none 0 0] 27)
  have bL0 := Boxed.new (w.alloc (.cells #[.slice none 0 0] 27)) 27 (.slice none 0 0)
  rw [World.size_alloc] at bL0
  obtain ⟨w0, hw0⟩ : ∃ w0, ((w.alloc (.cells #[.slice none 0 0] 27)).alloc (.cells #[.slice none 0 0] 27)) = w0 := ⟨_, rfl⟩
  have hsz0 : w0.heap.size = w.heap.size + 2 := by rw [← hw0]; simp
  rw [hw0] at hB0 bQ0 bL0 ⊢
  have HZ0 := hide hsz0
  clear hw0 hsz0
  refine ⟨trivial, ?_⟩
  refine (callsIn_wide.2 (hlen w0 hB0)).mono ?_
  rintro e w1 ⟨rfl, hb1⟩
  have hB1 := hB0.trans (hb1.mono hB0.size)
  have bQ1 := Boxed.belowed bQ0 hb1 bQ0.lt
  have bL1 := Boxed.belowed bL0 hb1 bL0.lt
  have hup := up_yes (hb.below hB1) (by omega) s (by omega) (by omega)
  clear hlen bQ0 bL0
  have HS := hide hs
  gi_wp2_with fail
  refine ⟨trivial, ?_⟩
  rw [HS.out]
  refine (callsIn_wide.2 hup).mono ?_
  rintro e w2 ⟨a2, c2, ds, rfl, hs2, hn2, hv2, hl2, hb2⟩
  have hB2 := hB1.trans (hb2.mono hB1.size)
  have bQ2 := Boxed.belowed bQ1 hb2 bQ1.lt
  have bL2 := Boxed.belowed bL1 hb2 bL1.lt
  obtain ⟨k, hk, htop⟩ := long_divisor hy HBS.out hs2.words hn2 hv2
  have hwd := hs2.words
  have HV2 := hide hv2
  have HK := hide hk
  rw [hk] at hs2 ⊢
  clear hup bQ1 bL1 hv2 hs
  gi_wp2_with fail
  have hB3 : Below w2.heap.size w2 (w2.alloc (.cells #[.slice a2 (k + 2) c2] 27)) := (Below.refl _ w2).alloc (Nat.le_refl _) _
  have bD3 := Boxed.new w2 27 (.slice a2 (k + 2) c2)
  have bQ3 := bQ2.alloc (.cells #[.slice a2 (k + 2) c2] 27)
  have bL3 := bL2.alloc (.cells #[.slice a2 (k + 2) c2] 27)
  obtain ⟨w3, hw3⟩ : ∃ w3, w2.alloc (.cells #[.slice a2 (k + 2) c2] 27) = w3 := ⟨_, rfl⟩
  have hsz3 : w3.heap.size = w2.heap.size + 1 := by rw [← hw3]; simp
  rw [hw3] at hB3 bD3 bQ3 bL3 ⊢
  have HZ3 := hide hsz3
  clear hw3 hsz3 bQ2 bL2
  have hB23 := hB2.trans (hB3.mono hB2.size)
  have hup := up_own (ha.below hB23) (by omega) s (by omega) (by omega)
  refine ⟨trivial, ?_⟩
  refine (callsIn_wide.2 hup).mono ?_
  rintro e w4 ⟨a4, c4, us, rfl, hO4, hn4, hv4, hl4, hb4⟩
  have hB4 := hB23.trans (hb4.mono hB23.size)
  have bQ4 := Boxed.belowed bQ3 hb4 bQ3.lt
  have bL4 := Boxed.belowed bL3 hb4 bL3.lt
  have bD4 := Boxed.belowed bD3 hb4 bD3.lt
  have hds4 := (hs2.below hB3).below hb4
  have hz2 : w.heap.size + 2 ≤ w2.heap.size := by have := HZ0.out; have := hb1.size; have := hb2.size; omega
  have hz3 : w3.heap.size = w2.heap.size + 1 := HZ3.out
  have hcL4 := bL4.cell
  have hfL4 := bL4.frozen
  -- the divisor's block
  have hdb : ds ≠ [] → ∀ b o, a2 = some ⟨b, o, none⟩ → w.heap.size + 2 ≤ b ∧ b < w2.heap.size := fun _ b o e => by
    obtain ⟨b', o', e2, h1, h2⟩ := hs2.row (by omega)
    rw [e] at e2
    cases e2
    have := HZ0.out; have := hb1.size
    omega
  have hul : k + 2 ≤ us.length := by
    have := norm_len hwd (hO4.2) hn2 (by rw [HV2.out, hv4]; exact Int.mul_le_mul_of_nonneg_right hxy (Int.le_of_lt (two_pos s)))
    omega
  have hO4' : Own w3.heap.size (w4.setCell ⟨w.heap.size + 1, 0, none⟩ (.slice a4 us.length c4)) (.slice a4 us.length c4) us := ⟨ownsRow_setCell_below hO4.1 (by show w.heap.size + 1 < w3.heap.size; omega) _, hO4.2⟩
  have bL5 := Boxed.set (.slice a4 us.length c4) bL4
  have bQ5 := Boxed.aside bQ4 (B' := w.heap.size + 1) (by omega) 0 (.slice a4 us.length c4)
  have bD5 := Boxed.aside bD4 (B' := w.heap.size + 1) (by omega) 0 (.slice a4 us.length c4)
  have hds5 := hds4.aside (B := w.heap.size + 1) (fun h b o e => by have := hdb h b o e; omega) 0 (.slice a4 us.length c4)
  have hB5 := hB4.setCell (p := ⟨w.heap.size + 1, 0, none⟩) (by show w.heap.size ≤ w.heap.size + 1; omega) (.slice a4 us.length c4)
  obtain ⟨w5, hw5⟩ : ∃ w5, w4.setCell ⟨w.heap.size + 1, 0, none⟩ (.slice a4 us.length c4) = w5 := ⟨_, rfl⟩
  have hz5 : w3.heap.size ≤ w5.heap.size := by rw [← hw5, size_setCell]; exact hb4.size
  rw [hw5] at hO4' bL5 bQ5 bD5 hds5 hB5
  obtain ⟨a6, c6, w6, hap, hO6, hb6⟩ := own_append hO4' 0 (by decide) (by omega) hz5
  rw [← hw5, size_setCell] at hap
  have bL6 := Boxed.belowed bL5 hb6 (by omega)
  have bQ6 := Boxed.belowed bQ5 hb6 (by omega)
  have bD6 := Boxed.belowed bD5 hb6 (by omega)
  have hds6 := hds5.under (N := w3.heap.size) (fun h b o e => by have := hdb h b o e; omega) hb6
  have hB6 := hB5.trans (hb6.mono (by have := hB23.size; omega))
  have hcL5 := bL5.cell
  rw [← hw5] at hcL5
  have hcL6 := bL6.cell
  have hfL6 := bL6.frozen
  obtain ⟨m, hm⟩ : ∃ m, m + (k + 2) = us.length + 1 := ⟨us.length + 1 - (k + 2), by omega⟩
  have hmi : (us.length : Int) + 1 - ((k : Int) + 2) = (m : Int) := by omega
  obtain ⟨Z, hmk, hZ⟩ := make_any m (by omega)
  have hw64 : wrap64 (m : Int) = (m : Int) := by unfold wrap64; omega
  have HX : Hid (w.heap.size + 2 ≤ w2.heap.size ∧ w3.heap.size = w2.heap.size + 1 ∧ w3.heap.size ≤ w5.heap.size ∧ k + 2 ≤ us.length ∧ m + (k + 2) = us.length + 1 ∧ val us = val xs * 2 ^ s ∧ us.length ≤ 4001) := ⟨hz2, hz3, hz5, hul, hm, hv4, by omega⟩
  have HDB := hide hdb
  have HHZ := hide hZ
  have HB6 := hide hB6
  have HBX : Hid (Boxed w6 (w.heap.size + 1) 27 (.slice a4 us.length c4) ∧ Boxed w6 w.heap.size 27 (.slice none 0 0) ∧ Boxed w6 w2.heap.size 27 (.slice a2 (k + 2) c2)) := ⟨bL6, bQ6, bD6⟩
  have HDS := hide hds6
  have HO6 := hide hO6
  have HW5 := hide hw5
  have HTOP := hide htop
  have bL7 := Boxed.set (.slice a6 (us.length + 1) c6) bL6
  have bD7 := Boxed.aside bD6 (B' := w.heap.size + 1) (by omega) 0 (.slice a6 (us.length + 1) c6)
  have bQ7 := Boxed.aside bQ6 (B' := w.heap.size + 1) (by omega) 0 (.slice a6 (us.length + 1) c6)
  have bQ8 := bQ7.alloc Z
  have bQ9 := Boxed.set (.slice (some ⟨w6.heap.size, 0, none⟩) m m) bQ8
  have hcL7 := bL7.cell
  have hcD7 := bD7.cell
  have hcQ8 := bQ8.cell
  have hfQ8 := bQ8.frozen
  have hcQ9 := bQ9.cell
  clear bL7 bD7 bQ7 bQ8 bQ9 hup bQ3 bL3 bD3 bL4 bQ4 bD4 hds4 hO4 hO4' hw5 hv4 hm hz2 hz3 hz5 hul hdb hZ hB6 bL6 bQ6 bD6 hds6 hO6 bL5 bQ5 bD5 hds5 hB5 hB4 hB23 hB3 hB2 hB1 hB0 hb1 hb2 hb4 hb6 htop hk hs2 hn2 hl2 hl4 hn4 hwd ha hb hla hlb hy hxy hwx hwy hs64
  gi_wp2_with (gi_at_builtin; go_loud (refine wpListIn_append_run _ rfl _ _ _ _ rfl _ _ rfl rfl _ _ hap ?_))
  refine ⟨trivial, ?_⟩
  refine (backward_in Fence.wide _ trivial rfl _ _ _ _).mono ?_
  rintro e w10 ⟨rfl, rfl⟩
  obtain ⟨bL6, bQ6, bD6⟩ := HBX.out
  obtain ⟨hz2, hz3, hz5, hul, hm, hv4, hul4⟩ := HX.out
  have hsl6 : Seg w3.heap.size w6 (.slice a6 (us.length + 1) c6) (us ++ [0]) := by
    obtain ⟨a6', c6', e6, hsl6⟩ := own_seg HO6.out
    rw [show (us ++ [(0 : Int)]).length = us.length + 1 by simp] at e6 hsl6
    rw [e6]
    exact hsl6
  obtain ⟨g6, o6, rfl, hg6, hg6'⟩ := hsl6.row (by omega)
  have bL9 := (Boxed.aside ((Boxed.set (.slice (some ⟨g6, o6, none⟩) (us.length + 1) c6) bL6).alloc Z) (B' := w.heap.size) (by omega) 0 (.slice (some ⟨w6.heap.size, 0, none⟩) m m)).alloc (.cells #[(.slice (some ⟨w6.heap.size, 0, none⟩) m m)] 27)
  have bD9 := (Boxed.aside ((Boxed.aside bD6 (B' := w.heap.size + 1) (by omega) 0 (.slice (some ⟨g6, o6, none⟩) (us.length + 1) c6)).alloc Z) (B' := w.heap.size) (by omega) 0 (.slice (some ⟨w6.heap.size, 0, none⟩) m m)).alloc (.cells #[(.slice (some ⟨w6.heap.size, 0, none⟩) m m)] 27)
  have bQ9 := (Boxed.set (.slice (some ⟨w6.heap.size, 0, none⟩) m m) ((Boxed.aside bQ6 (B' := w.heap.size + 1) (by omega) 0 (.slice (some ⟨g6, o6, none⟩) (us.length + 1) c6)).alloc Z)).alloc (.cells #[(.slice (some ⟨w6.heap.size, 0, none⟩) m m)] 27)
  have bS9 := Boxed.new (((w6.setCell ⟨w.heap.size + 1, 0, none⟩ (.slice (some ⟨g6, o6, none⟩) (us.length + 1) c6)).alloc Z).setCell ⟨w.heap.size, 0, none⟩ (.slice (some ⟨w6.heap.size, 0, none⟩) m m)) 27 (.slice (some ⟨w6.heap.size, 0, none⟩) m m)
  have hall : ∀ W W' : World, Below W.heap.size W (W.alloc Z) := fun W _ => (Below.refl _ W).alloc (Nat.le_refl _) _
  have hds9 := ((((HDS.out.aside (B := w.heap.size + 1) (fun h b o e => by have := HDB.out h b o e; omega) 0 (.slice (some ⟨g6, o6, none⟩) (us.length + 1) c6)).below (hall _ w)).aside (B := w.heap.size) (fun h b o e => by have := HDB.out h b o e; omega) 0 (.slice (some ⟨w6.heap.size, 0, none⟩) m m))).below ((Below.refl _ _).alloc (Nat.le_refl _) (.cells #[(.slice (some ⟨w6.heap.size, 0, none⟩) m m)] 27))
  have hsl9 := (((hsl6.aside (B := w.heap.size + 1) (fun _ b o e => by cases e; omega) 0 (.slice (some ⟨g6, o6, none⟩) (us.length + 1) c6)).below (hall _ w)).aside (B := w.heap.size) (fun _ b o e => by cases e; omega) 0 (.slice (some ⟨w6.heap.size, 0, none⟩) m m)).below ((Below.refl _ _).alloc (Nat.le_refl _) (.cells #[(.slice (some ⟨w6.heap.size, 0, none⟩) m m)] 27))
  have hsq9 := ((HHZ.out (w6.setCell ⟨w.heap.size + 1, 0, none⟩ (.slice (some ⟨g6, o6, none⟩) (us.length + 1) c6))).aside (B := w.heap.size) (fun _ b o e => by cases e; rw [size_setCell]; omega) 0 (.slice (some ⟨w6.heap.size, 0, none⟩) m m)).below ((Below.refl _ _).alloc (Nat.le_refl _) (.cells #[(.slice (some ⟨w6.heap.size, 0, none⟩) m m)] 27))
  have hB9 : Below w.heap.size w ((((w6.setCell ⟨w.heap.size + 1, 0, none⟩ (.slice (some ⟨g6, o6, none⟩) (us.length + 1) c6)).alloc Z).setCell ⟨w.heap.size, 0, none⟩ (.slice (some ⟨w6.heap.size, 0, none⟩) m m)).alloc (.cells #[(.slice (some ⟨w6.heap.size, 0, none⟩) m m)] 27)) := (((HB6.out.setCell (p := ⟨w.heap.size + 1, 0, none⟩) (by show w.heap.size ≤ w.heap.size + 1; omega) (.slice (some ⟨g6, o6, none⟩) (us.length + 1) c6)).alloc (by rw [size_setCell]; exact HB6.out.size) Z).setCell (p := ⟨w.heap.size, 0, none⟩) (Nat.le_refl _) (.slice (some ⟨w6.heap.size, 0, none⟩) m m)).alloc (by rw [size_setCell, World.size_alloc, size_setCell]; have := HB6.out.size; omega) _
  have hsz9 : ((((w6.setCell ⟨w.heap.size + 1, 0, none⟩ (.slice (some ⟨g6, o6, none⟩) (us.length + 1) c6)).alloc Z).setCell ⟨w.heap.size, 0, none⟩ (.slice (some ⟨w6.heap.size, 0, none⟩) m m)).alloc (.cells #[(.slice (some ⟨w6.heap.size, 0, none⟩) m m)] 27)).heap.size = w6.heap.size + 2 := by rw [World.size_alloc, size_setCell, World.size_alloc, size_setCell]
  rw [size_setCell] at hsq9
  rw [size_setCell, World.size_alloc, size_setCell] at bS9
  obtain ⟨w9, hw9⟩ : ∃ w9, (((w6.setCell ⟨w.heap.size + 1, 0, none⟩ (.slice (some ⟨g6, o6, none⟩) (us.length + 1) c6)).alloc Z).setCell ⟨w.heap.size, 0, none⟩ (.slice (some ⟨w6.heap.size, 0, none⟩) m m)).alloc (.cells #[(.slice (some ⟨w6.heap.size, 0, none⟩) m m)] 27) = w9 := ⟨_, rfl⟩
  gi_wp2_with fail
  rw [hw9] at bL9 bD9 bQ9 bS9 hds9 hsl9 hsq9 hB9 hsz9
  clear hw9 bL6 bQ6 bD6 hsl6 HHZ HDS hall hcL4 hfL4 hap hcL5 hcL6 hfL6 hcL7 hcD7 hcQ8 hfQ8 hcQ9 hmk HW5
  have hI0 : val (us ++ [0]) = val us := by rw [val_snoc, Int.mul_zero, Int.add_zero]
  have hwu : Words us := fun z hz => hsl9.words z (List.mem_append_left _ hz)
  have hst := long_start hwu hds9.words HK.out HTOP.out hm
  have hwd := hds9.words
  refine wpIn_rangeFunc_feeds rfl (by omega) (gf := 69) (lb := #[.pointer (some ⟨w6.heap.size + 1, 0, none⟩)]) rfl trivial (enters_of Tryz.func69 (by kernel_rfl) rfl)
    (backward_feeds Fence.wide 3 trivial rfl (by omega) (w6.heap.size + 1) (some ⟨w6.heap.size, 0, none⟩) m m (List.replicate m 0) (by omega) w9) (Below.refl _ _) (fun _ => rfl)
    (fun pre V => (∃ (P qs : List Int), Boxed V (w6.heap.size + 1) 27 (.slice (some ⟨w6.heap.size, 0, none⟩) m m) ∧ Seg w3.heap.size V (.slice (some ⟨g6, o6, none⟩) (us.length + 1) c6) P ∧ Seg w.heap.size V (.slice (some ⟨w6.heap.size, 0, none⟩) m m) qs ∧
      Hid (∀ j, j + pre.length < m → qs[j]?.getD 0 = 0) ∧ Hid (∀ j, (m - pre.length) + (k + 2) ≤ j → P[j]?.getD 0 = 0) ∧ Hid (val P < pw (m - pre.length) * val ds) ∧ Hid (val P + val qs * val ds = val us) ∧ Below w.heap.size w V) ∧ Below w3.heap.size w9 V)
    (fun _ _ _ => False)
    (fun s A B row hs hg hr => by
      obtain ⟨⟨P, qs, b1, h1, h2, h3, h4, h5, h6, h7⟩, h8⟩ := hs
      have hr' := fun r e => (hr r e).2
      exact ⟨⟨P, qs, boxed_own (w6.heap.size + 1) 27 (fun _ : Unit => (.slice (some ⟨w6.heap.size, 0, none⟩) m m)) () A B row b1 hg hr', h1.kept hg hr', h2.kept hg hr', h3, h4, h5, h6, ownFrom_below (Nat.le_refl _) hB9.size s A B row h7 hg hr⟩, ownFrom_below (by omega) (by omega) s A B row h8 hg hr⟩)
    (fun _ _ _ _ _ hs _ _ => hs)
    (fun pre V h => by
      obtain ⟨⟨P, qs, b1, h1, h2, h3, h4, h5, h6, h7⟩, h8⟩ := h
      refine ⟨b1.cell, fun j hj => ⟨w6.heap.size, 0, rfl, ?_⟩⟩
      rw [(h2.cell (j := j) (by omega)).1, h3.out j hj, zeros_at])
    ⟨⟨us ++ [0], List.replicate m 0, bS9, hsl9, hsq9.mono (by have := HB6.out.size; omega), fun j _ => zeros_at _ _, fun j hj => by rw [List.getElem?_eq_none (by simp at hj ⊢; omega)]; rfl, by rw [Hid, hI0]; simpa using hst, by rw [Hid, hI0, val_zeros]; simp, hB9⟩, Below.refl _ _⟩
    (fun p => { tmps := #[.slice a la ca, .slice b lb cb, undef, undef, .pointer (some ⟨w.heap.size, 0, none⟩), .pointer (some ⟨w.heap.size + 1, 0, none⟩), .int .i64 s, .pointer (some ⟨w2.heap.size, 0, none⟩), .int .i64 0, .int .i64 (p.1 : Int), .slice b lb cb, .int .i64 B, .int .i64 ((B : Int) % 64), .int .i64 (64 - (B : Int) % 64), .int .i64 s, .tuple #[.slice a2 (k + 2) c2, .int .i64 0], .slice b lb cb, .int .i64 s, .tuple #[.slice a2 (k + 2) c2, .int .i64 0], .slice a2 (k + 2) c2, .int .i64 0, .tuple #[.slice a4 us.length c4, .int .i64 0], .slice a la ca, .int .i64 s, .tuple #[.slice a4 us.length c4, .int .i64 0], .slice a4 us.length c4, .int .i64 0, .slice a4 us.length c4, .slice (some ⟨w4.heap.size, 0, none⟩) 1 1, .slice (some ⟨g6, o6, none⟩) (us.length + 1) c6, .slice (some ⟨g6, o6, none⟩) (us.length + 1) c6, .int .i64 ((us.length : Int) + 1), .slice a2 (k + 2) c2, .int .i64 ((k : Int) + 2), .int .i64 m, .slice (some ⟨w6.heap.size, 0, none⟩) m m, .slice (some ⟨w6.heap.size, 0, none⟩) m m, .func (.func 69) #[] #[.pointer (some ⟨w6.heap.size + 1, 0, none⟩)], .int .i64 (p.1 : Int), .int .u64 ((List.replicate m (0 : Int))[p.1]?.getD 0), undef, undef, undef, undef, undef, undef, undef, undef, undef, undef, undef, undef, undef, undef, undef, undef, undef, undef, undef, undef, undef, undef], defers := [] }) ?assign ?body ?done ?stop
  case assign =>
    intro l p W K hK
    gi_wp2
    exact hK
  case body =>
    rintro l pre ⟨i, hi⟩ V ⟨⟨P, qs, bS, hP, hQ, H0, HZP, HF, HE, hB⟩, hB9V⟩ ⟨_, hnx⟩
    dsimp only at hnx ⊢
    have e1 : m - pre.length = i + 1 := by omega
    have hzP := HZP.out
    have hF := HF.out
    rw [e1] at hzP hF
    have bQ := Boxed.belowed bQ9 hB9V (by omega)
    have bL := Boxed.belowed bL9 hB9V (by omega)
    have bD := Boxed.belowed bD9 hB9V (by omega)
    have hD := hds9.under (N := w3.heap.size) (fun h b o e => by have := HDB.out h b o e; omega) hB9V
    have hPl := hP.len
    have hwP := hP.words
    have hsplit := val_split P (i := i) (by omega)
    have hlow := val_lt (hwP.take i)
    rw [List.length_take, Nat.min_eq_left (by omega)] at hlow
    have hlow0 := val_nonneg (hwP.take i)
    have hfit : val (P.drop i) < val ds * 18446744073709551616 := by
      refine Int.lt_of_mul_lt_mul_left (a := pw i) ?_ (Int.le_of_lt (pw_pos i))
      have : pw (i + 1) * val ds = pw i * (val ds * 18446744073709551616) := by rw [pw_succ]; ac_rfl
      omega
    have HT := hide (takeOff_any (W := V.drew) (i := i) (cl := c6 - i) hD.drew (fun g o e => by have := HDB.out (by intro e2; have := HK.out; rw [e2] at this; simp at this) g o e; omega) hP.drew (by omega) (by omega) HTOP.out (fun j hj => hzP j (by omega)) hfit)
    have hcQ := bQ.cell
    have hcL := bL.cell
    have hcD := bD.cell
    have HLT : Hid (w.heap.size < V.heap.size ∧ w.heap.size + 1 < V.heap.size ∧ w2.heap.size < V.heap.size ∧ w.heap.size ≠ g6 ∧ w.heap.size + 1 ≠ g6 ∧ w2.heap.size ≠ g6) := ⟨bQ.lt, bL.lt, bD.lt, by omega, by omega, by omega⟩
    obtain ⟨hce, hfr⟩ := hQ.cell (j := i) hi
    have hi1 : (i : Int) ≤ (i : Int) + ((k : Int) + 2) + 1 := by omega
    have hi2 : (i : Int) + ((k : Int) + 2) + 1 ≤ (c6 : Int) := by omega
    have hi3 : (i : Int) < (m : Int) := by omega
    have hi4 : IntKind.i64.wrap ((i : Int) + ((k : Int) + 2)) = (i : Int) + ((k : Int) + 2) := i64_small _ (by omega) (by omega)
    have hi5 : IntKind.i64.wrap ((i : Int) + ((k : Int) + 2) + 1) = (i : Int) + ((k : Int) + 2) + 1 := i64_small _ (by omega) (by omega)
    have hi6 : (0 : Int) ≤ (i : Int) + ((k : Int) + 2) + 1 := by omega
    have HI := hide (And.intro e1 (And.intro hzP (And.intro hF (And.intro hsplit (And.intro hlow (And.intro hlow0 (And.intro hPl hwP)))))))
    have HBB := hide (And.intro bS (And.intro hP (And.intro hQ (And.intro hB (And.intro hB9V hD)))))
    have HNX := hide hnx
    have HH := hide (And.intro hz2 (And.intro hz3 (And.intro hul (And.intro hm (And.intro hul4 (And.intro hg6 hg6'))))))
    have HSZ9 := hide hsz9
    have HLQ : Hid (w6.heap.size < V.heap.size) := by obtain ⟨b', o', e, _, h⟩ := hQ.row (by omega); cases e; exact h
    have HLW : Hid (w.heap.size < w6.heap.size ∧ w.heap.size + 1 < w6.heap.size ∧ w2.heap.size < w6.heap.size) := ⟨by omega, by omega, by omega⟩
    clear e1 hzP hF hsplit hlow hlow0 hPl hwP bS hP hQ hB hB9V hD hnx hz2 hz3 hul hm hul4 hg6 hg6' hsz9 bQ bL bD HZP HF hfit hst hI0 hmi hw64 hwu hwd bL9 bD9 bQ9 bS9 hds9 hsl9 hsq9 hB9 hz5 hv4
    gi_wp2_with fail
    refine wpIn_round_held (S := (fun W => W.cell? ⟨w.heap.size, 0, none⟩ = some (.slice (some ⟨w6.heap.size, 0, none⟩) m m) ∧ W.cell? ⟨w.heap.size + 1, 0, none⟩ = some (.slice (some ⟨g6, o6, none⟩) (us.length + 1) c6) ∧ W.cell? ⟨w2.heap.size, 0, none⟩ = some (.slice a2 (k + 2) c2))) (by kernel_rfl) (by kernel_rfl) (by rintro ⟨_, _, h⟩; exact h) ⟨hcQ, hcL, hcD⟩ (fun hHeld => ?_)
    simp only [List.size_toArray, List.length_cons, List.length_nil, Nat.reduceAdd]
    refine wpAnyH_take (i := 0) (v := ?_) rfl (by kernel_rfl) (by kernel_rfl) (by kernel_rfl) (fun _ _ _ h => h) (Or.inl ⟨by rfl, ?_⟩) (by assumption) ?_
    rotate_left
    · intro w hSw
      try dsimp only at hSw
      go_simp
      try with_reducible rfl
    simp only [Act.put, List.setIfInBounds_toArray, List.set_cons_zero, List.set_cons_succ, List.getElem_toArray, List.getElem_cons_zero]
    refine wpAnyH_take (i := 1) (v := ?_) rfl (by kernel_rfl) (by kernel_rfl) (by kernel_rfl) (fun _ _ _ h => h) (Or.inl ⟨by rfl, ?_⟩) (by assumption) ?_
    rotate_left
    · intro w hSw
      try dsimp only at hSw
      go_simp
      try with_reducible rfl
    simp only [Act.put, List.setIfInBounds_toArray, List.set_cons_zero, List.set_cons_succ, List.getElem_toArray, List.getElem_cons_zero, List.getElem_cons_succ]
    refine wpAnyH_take (i := 2) (v := ?_) rfl (by kernel_rfl) (by kernel_rfl) (by kernel_rfl) (fun _ _ _ h => h) (Or.inl ⟨by rfl, ?_⟩) (by assumption) ?_
    rotate_left
    · intro w hSw
      try dsimp only at hSw
      go_simp
      try with_reducible rfl
    simp only [Act.put, List.setIfInBounds_toArray, List.set_cons_zero, List.set_cons_succ, List.getElem_toArray, List.getElem_cons_zero, List.getElem_cons_succ]
    refine wpAnyH_take (i := 3) (v := ?_) rfl (by kernel_rfl) (by kernel_rfl) (by kernel_rfl) (fun _ _ _ h => h) (Or.inl ⟨by rfl, ?_⟩) (by assumption) ?_
    rotate_left
    · intro w hSw
      try dsimp only at hSw
      go_simp
      try with_reducible rfl
    simp only [Act.put, List.setIfInBounds_toArray, List.set_cons_zero, List.set_cons_succ, List.getElem_toArray, List.getElem_cons_zero, List.getElem_cons_succ]
    refine wpAnyH_take (i := 4) (v := ?_) rfl (by kernel_rfl) (by kernel_rfl) (by kernel_rfl) (fun _ _ _ h => h) (Or.inl ⟨by rfl, ?_⟩) (by assumption) ?_
    rotate_left
    · intro w hSw
      try dsimp only at hSw
      go_simp
      try with_reducible rfl
    simp only [Act.put, List.setIfInBounds_toArray, List.set_cons_zero, List.set_cons_succ, List.getElem_toArray, List.getElem_cons_zero, List.getElem_cons_succ]
    refine wpAnyH_take (i := 5) (v := ?_) rfl (by kernel_rfl) (by kernel_rfl) (by kernel_rfl) (fun _ _ _ h => h) (Or.inl ⟨by rfl, ?_⟩) (by assumption) ?_
    rotate_left
    · intro w hSw
      try dsimp only at hSw
      go_simp
      try with_reducible rfl
    simp only [Act.put, List.setIfInBounds_toArray, List.set_cons_zero, List.set_cons_succ, List.getElem_toArray, List.getElem_cons_zero, List.getElem_cons_succ]
    refine wpAnyH_take (i := 6) (v := ?_) rfl (by kernel_rfl) (by kernel_rfl) (by kernel_rfl) (fun _ _ _ h => h) (Or.inl ⟨by rfl, ?_⟩) (by assumption) ?_
    rotate_left
    · intro w hSw
      try dsimp only at hSw
      go_simp
      try with_reducible rfl
    simp only [Act.put, List.setIfInBounds_toArray, List.set_cons_zero, List.set_cons_succ, List.getElem_toArray, List.getElem_cons_zero, List.getElem_cons_succ]
    refine wpAnyH_take (i := 7) (v := ?_) rfl (by kernel_rfl) (by kernel_rfl) (by kernel_rfl) (fun _ _ _ h => h) (Or.inl ⟨by rfl, ?_⟩) (by assumption) ?_
    rotate_left
    · intro w hSw
      try dsimp only at hSw
      go_simp
      try with_reducible rfl
    simp only [Act.put, List.setIfInBounds_toArray, List.set_cons_zero, List.set_cons_succ, List.getElem_toArray, List.getElem_cons_zero, List.getElem_cons_succ]
    refine wpAnyH_take (i := 8) (v := ?_) rfl (by kernel_rfl) (by kernel_rfl) (by kernel_rfl) (fun _ _ _ h => h) (Or.inl ⟨by rfl, ?_⟩) (by assumption) ?_
    rotate_left
    · intro w hSw
      try dsimp only at hSw
      go_simp
      try with_reducible rfl
    simp only [Act.put, List.setIfInBounds_toArray, List.set_cons_zero, List.set_cons_succ, List.getElem_toArray, List.getElem_cons_zero, List.getElem_cons_succ]
    refine wpAnyH_take (i := 9) (v := ?_) rfl (by kernel_rfl) (by kernel_rfl) (by kernel_rfl) (fun _ _ _ h => h) (Or.inl ⟨by rfl, ?_⟩) (by assumption) ?_
    rotate_left
    · intro w hSw
      try dsimp only at hSw
      go_simp
      try with_reducible rfl
    simp only [Act.put, List.setIfInBounds_toArray, List.set_cons_zero, List.set_cons_succ, List.getElem_toArray, List.getElem_cons_zero, List.getElem_cons_succ]
    refine wpAnyH_take (i := 10) (v := ?_) rfl (by kernel_rfl) (by kernel_rfl) (by kernel_rfl) (fun _ _ _ h => h) (Or.inl ⟨by rfl, ?_⟩) (by assumption) ?_
    rotate_left
    · intro w hSw
      try dsimp only at hSw
      go_simp
      try with_reducible rfl
    simp only [Act.put, List.setIfInBounds_toArray, List.set_cons_zero, List.set_cons_succ, List.getElem_toArray, List.getElem_cons_zero, List.getElem_cons_succ]
    refine wpAnyH_ready (rs := [11]) (by kernel_rfl) (by simp) ?_
    refine AllReadyH.cons rfl (fun K hK => ?_) AllReadyH.nil
    go_simp
    rw [if_neg (show ¬ c6 = i by omega), show ((i : Int) + ((k : Int) + 2) + 1).toNat - i = k + 3 by omega]
    refine HT.out.mono ?_
    rintro e w' ⟨P', rfl, hP', eP', hz', hlow', hqd, hT'⟩
    have hT2 : Turns g6 V w' := (Turns.refl _ V).drew.trans hT'
    obtain ⟨l1, l2, l3, n1, n2, n3⟩ := HLT.out
    have hcQ' : w'.cell? ⟨w.heap.size, 0, none⟩ = some (.slice (some ⟨w6.heap.size, 0, none⟩) m m) := (World.cell?_of_block (a := ⟨w.heap.size, 0, none⟩) (hT2.other w.heap.size n1 l1)).trans hcQ
    have hcL' : w'.cell? ⟨w.heap.size + 1, 0, none⟩ = some (.slice (some ⟨g6, o6, none⟩) (us.length + 1) c6) := (World.cell?_of_block (a := ⟨w.heap.size + 1, 0, none⟩) (hT2.other (w.heap.size + 1) n2 l2)).trans hcL
    have hcD' : w'.cell? ⟨w2.heap.size, 0, none⟩ = some (.slice a2 (k + 2) c2) := (World.cell?_of_block (a := ⟨w2.heap.size, 0, none⟩) (hT2.other w2.heap.size n3 l3)).trans hcD
    have HCE : w'.cell? ⟨w6.heap.size, 0 + i, none⟩ = some (.int .u64 (qs[i]?.getD 0)) ∧ w'.frozen? ⟨w6.heap.size, 0 + i, none⟩ = false := by
      have hh := hT2.other w6.heap.size (by have := HH.out; omega) HLQ.out
      exact ⟨(World.cell?_of_block (a := ⟨w6.heap.size, 0 + i, none⟩) hh).trans hce, (World.frozen?_of_block (a := ⟨w6.heap.size, 0 + i, none⟩) hh).trans hfr⟩
    rw [Nat.zero_add] at HCE
    obtain ⟨hce', hfr'⟩ := HCE
    have HP' := hide (And.intro hP' (And.intro eP' (And.intro hz' (And.intro hlow' (And.intro hqd hT2)))))
    clear hP' eP' hz' hlow' hqd hT' hT2 n1 n2 n3 l1 l2 l3
    obtain ⟨q, hq⟩ : ∃ q, val (P.drop i) / val ds = q := ⟨_, rfl⟩
    rw [hq] at HP' ⊢
    have HQ := hide hq
    clear hq HT
    dsimp only
    refine hK.out _ _ ?_ (fun hHeld => ?_)
    · exact ⟨hcQ', hcL', hcD'⟩
    clear hK K
    try simp only [Act.put, List.setIfInBounds_toArray, List.set_cons_zero, List.set_cons_succ, List.getElem_toArray, List.getElem_cons_zero, List.getElem_cons_succ]
    refine wpAnyH_take (i := 12) (v := ?_) rfl (by kernel_rfl) (by kernel_rfl) (by kernel_rfl) (fun _ _ _ h => h) (Or.inl ⟨by rfl, ?_⟩) (by assumption) ?_
    rotate_left
    · intro w hSw
      try dsimp only at hSw
      go_simp
      try with_reducible rfl
    simp only [Act.put, List.setIfInBounds_toArray, List.set_cons_zero, List.set_cons_succ, List.getElem_toArray, List.getElem_cons_zero, List.getElem_cons_succ]
    refine wpAnyH_ready (rs := [13]) (by kernel_rfl) (by simp) ?_
    refine AllReadyH.cons rfl (fun K hK => ?_) AllReadyH.nil
    go_simp
    refine hK.out _ _ ?_ (fun hHeld => ?_)
    · exact ⟨(World.cell?_setCell_other _ _ _ _ (by intro h; injection h with h1 h2; have := HH.out; have := HLW.out; omega)).trans hcQ', (World.cell?_setCell_other _ _ _ _ (by intro h; injection h with h1 h2; have := HH.out; have := HLW.out; omega)).trans hcL', (World.cell?_setCell_other _ _ _ _ (by intro h; injection h with h1 h2; have := HH.out; have := HLW.out; omega)).trans hcD'⟩
    clear hK K
    try simp only [Act.put, List.setIfInBounds_toArray, List.set_cons_zero, List.set_cons_succ, List.getElem_toArray, List.getElem_cons_zero, List.getElem_cons_succ]
    refine wpAnyH_done (by kernel_rfl) ?_ _
    obtain ⟨e1, hzP, hF, hsplit, hlow, hlow0, hPl, hwP⟩ := HI.out
    obtain ⟨bS, hP, hQ, hB, hB9V, hD⟩ := HBB.out
    obtain ⟨hz2, hz3, hul, hm, hul4, hg6, hg6'⟩ := HH.out
    obtain ⟨hP', eP', hz', hlow', hqd, hT2⟩ := HP'.out
    have hnx := HNX.out
    have hsz9 := HSZ9.out
    have hvd : 0 < val ds := by
      have hwd := hD.words
      have hd2 := val_take_succ ds (k + 1) (by have := HK.out; omega)
      rw [List.take_of_length_le (by have := HK.out; omega)] at hd2
      have h3 := val_nonneg (hwd.take (k + 1))
      have h4 : pw (k + 1) * 1 ≤ pw (k + 1) * ds[k + 1]?.getD 0 := Int.mul_le_mul_of_nonneg_left (by have := HTOP.out; omega) (Int.le_of_lt (pw_pos _))
      have := pw_pos (k + 1)
      omega
    obtain ⟨s1, s2⟩ := long_step (vq := val qs) (pw_pos i) hvd hsplit hlow HQ.out eP'
    have hql := hQ.len.1
    have hQ' := (hQ.turns hT2 (show w6.heap.size ≠ g6 by omega)).set (k := i) (x := q) (by omega) hqd
    have hset := val_set (ss := qs) (k := i) (by omega) q
    rw [H0.out i (by omega), Int.sub_zero] at hset
    rw [Nat.zero_add] at hQ'
    have bS' := Boxed.aside (show Boxed w' (w6.heap.size + 1) 27 (.slice (some ⟨w6.heap.size, 0, none⟩) m m) from (hT2.other (w6.heap.size + 1) (by omega) bS.lt).trans bS) (B' := w6.heap.size) (by omega) i (.int .u64 q)
    have hP2 := hP'.aside (B := w6.heap.size) (fun _ b o e => by cases e; omega) i (.int .u64 q)
    have e2 : m - (pre ++ [(⟨i, hi⟩ : Place m)]).length = i := by rw [List.length_append]; simp; omega
    refine ⟨(show KeepsFrom w9.heap.size V w' from ⟨hT2.below.size, fun k o hk hk2 _ => (hT2.other k (by omega) (Array.getElem?_eq_some_iff.1 hk2).1).trans hk2⟩).trans ((KeepsOthers.setCell _ _ _).from _), trivial, ⟨P', qs.set i q, bS', hP2, hQ', ?_, ?_, ?_, ?_, ?_⟩, ?_⟩
    · intro j hj
      rw [List.length_append] at hj
      simp at hj
      rw [List.getElem?_set_ne (by omega)]
      exact H0.out j (by omega)
    · rw [Hid, e2]; exact hz'
    · rw [Hid, e2]; exact s1
    · rw [Hid, hset, s2]; exact HE.out
    · exact (hB.trans (hT2.below.mono (by omega))).setCell (p := ⟨w6.heap.size, i, none⟩) (by show w.heap.size ≤ w6.heap.size; omega) _
    · exact (hB9V.trans (hT2.below.mono (by omega))).setCell (p := ⟨w6.heap.size, i, none⟩) (by show w3.heap.size ≤ w6.heap.size; omega) _
  case done =>
    rintro D zs W hD hzs ⟨⟨P, qs, bS, hP, hQ, H0, HZP, HF, HE, hB⟩, hB9V⟩ hK
    have hyl : zs.length = m := by have := congrArg List.length hzs; rwa [List.length_map, upto_length] at this
    have hF := HF.out
    rw [hyl, Nat.sub_self, pw_zero, Int.one_mul] at hF
    have hE := HE.out
    have hP0 := val_nonneg hP.words
    have hvd : 0 < val ds := by omega
    have h2 := two_pos s
    have hyp : 0 < val ys := by
      have := HV2.out
      rcases (show val ys ≤ 0 ∨ 0 < val ys by omega) with h | h
      · have := Int.mul_le_mul_of_nonneg_right h (Int.le_of_lt h2); omega
      · exact h
    have hres : val qs = val xs / val ys ∧ val P = val xs % val ys * 2 ^ s := by
      have h3 : val us / val ds = val qs ∧ val us % val ds = val P := by
        rw [← hE, Int.mul_comm (val qs), Int.add_comm]
        constructor
        · rw [Int.mul_add_ediv_left _ _ (by omega), Int.ediv_eq_zero_of_lt hP0 hF, Int.add_zero]
        · rw [Int.mul_add_emod_self_left, Int.emod_eq_of_lt hP0 hF]
      have h4 := quot_moved (a := val xs) (b := val ys) (p := 2 ^ s) h2
      rw [← HV2.out, ← hv4] at h4
      exact ⟨h3.1.symm.trans h4.1, h3.2.symm.trans h4.2⟩
    have HR := hide hres
    clear hres hE hF HE HF HZP H0
    have bQ := Boxed.belowed bQ9 hB9V (by omega)
    have bL := Boxed.belowed bL9 hB9V (by omega)
    have hcL := bL.cell
    have hfL := bL.frozen
    have hPl := hP.len.1
    have hdn := down_yes hP (by omega) s (by have := HS.out; omega)
    have HH := hide (And.intro hz2 (And.intro hz3 (And.intro hg6 (And.intro hg6' (And.intro hsz9 (And.intro hD hB9.size))))))
    have HDN := hide hdn
    have HMU := hide (And.intro hm hul4)
    clear hdn hz2 hz3 hz5 hul hm hul4 hg6 hg6' hsz9 hD hmi hw64 hwu hwd hst hI0 hv4 hPl hP0 hvd h2 hyp hyl hzs bL9 bD9 bQ9 bS9 hds9 hsl9 hsq9 hB9
    gi_wp2_with fail
    refine ⟨trivial, ?_⟩
    refine (callsIn_wide.2 HDN.out).mono ?_
    rintro e W1 ⟨aD, cD, rs, rfl, hsD, hnD, hvD, hlD, hbD⟩
    have bL1 := Boxed.belowed bL hbD bL.lt
    have bQ1 := Boxed.belowed bQ hbD bQ.lt
    have hQ1 := hQ.below hbD
    have hK1 : W1.heap[D]? = some (.deferred (some [])) := (hbD.block D (Array.getElem?_eq_some_iff.1 hK).1).trans hK
    have hB1 := hB.trans (hbD.mono hB.size)
    have hWs : w6.heap.size < W.heap.size := by
      obtain ⟨b', o', e, _, h⟩ := hQ.row (by have := HMU.out; have := HX.out; omega)
      cases e; exact h
    have hsW : w.heap.size + 2 ≤ W.heap.size := by have := HH.out; have := HX.out; omega
    have hcL1 := bL1.cell
    have hfL1 := bL1.frozen
    -- the worlds behind: left's box is stored
    have bL2 := Boxed.set (.slice aD rs.length cD) bL1
    have bQ2 := Boxed.aside bQ1 (B' := w.heap.size + 1) (by omega) 0 (.slice aD rs.length cD)
    have hQ2 := hQ1.aside (B := w.heap.size + 1) (fun _ b o e => by cases e; have := HH.out; omega) 0 (.slice aD rs.length cD)
    have hsD2 := hsD.aside (B := w.heap.size + 1) (fun h b o e => by
      obtain ⟨b', o', e2, h1, _⟩ := hsD.row (List.length_pos_iff.2 h)
      rw [e] at e2; cases e2; omega) 0 (.slice aD rs.length cD)
    have hB2 := hB1.setCell (p := ⟨w.heap.size + 1, 0, none⟩) (by show w.heap.size ≤ w.heap.size + 1; omega) (.slice aD rs.length cD)
    have hK2 := (KeepsOthers.setCell W1 ⟨w.heap.size + 1, 0, none⟩ (.slice aD rs.length cD)).same D _ hK1 rfl
    have HVD := hide hvD
    have HLD := hide hlD
    clear hvD hlD HDN
    gi_wp2_with fail
    obtain ⟨W2, hW2⟩ : ∃ W2, W1.setCell ⟨w.heap.size + 1, 0, none⟩ (.slice aD rs.length cD) = W2 := ⟨_, rfl⟩
    have hs2 : W1.heap.size = W2.heap.size := by rw [← hW2, size_setCell]
    rw [hW2] at bL2 bQ2 hQ2 hsD2 hB2 hK2 ⊢
    have hcL2 := bL2.cell
    have hcQ2 := bQ2.cell
    have hmq := hQ2.len.1
    have HQB : Hid (Calls Tryz.prog 80 #[.slice (some ⟨w6.heap.size, 0, none⟩) m m] W2.drew fun e w' => ∃ ts : List Int, e = .returned (.slice (some ⟨w6.heap.size, 0, none⟩) ts.length m) ∧ Seg w.heap.size w' (.slice (some ⟨w6.heap.size, 0, none⟩) ts.length m) ts ∧ Norm ts ∧ val ts = val qs ∧ ts.length ≤ m ∧ Below W2.drew.heap.size W2.drew w') := by
      have h3 := hQ2.drew
      rw [hmq] at h3
      have := qbare_same (a := some ⟨w6.heap.size, 0, none⟩) (cap := qs.length) h3 (by have := HMU.out; omega)
      rw [← hmq] at this
      exact this
    have haft : ∀ w' (v : Value), Below W2.drew.heap.size W2.drew w' → w'.cell? ⟨w.heap.size, 0, none⟩ = some (.slice (some ⟨w6.heap.size, 0, none⟩) m m) ∧ w'.frozen? ⟨w.heap.size, 0, none⟩ = false ∧ w'.cell? ⟨w.heap.size + 1, 0, none⟩ = some (.slice aD rs.length cD) ∧ (w'.setCell ⟨w.heap.size, 0, none⟩ v).cell? ⟨w.heap.size + 1, 0, none⟩ = some (.slice aD rs.length cD) ∧ (w'.setCell ⟨w.heap.size, 0, none⟩ v).frozen? ⟨w.heap.size + 1, 0, none⟩ = false ∧ ((w'.setCell ⟨w.heap.size, 0, none⟩ v).setCell ⟨w.heap.size + 1, 0, none⟩ (.slice aD rs.length cD)).cell? ⟨w.heap.size + 1, 0, none⟩ = some (.slice aD rs.length cD) := fun w' v hb => by
      have hb' : Below W2.heap.size W2 w' := (Below.refl _ W2).drew.trans (by exact hb)
      have b1 := Boxed.belowed bQ2 hb' bQ2.lt
      have b2 := Boxed.belowed bL2 hb' bL2.lt
      have b3 := Boxed.aside b2 (B' := w.heap.size) (by omega) 0 v
      exact ⟨b1.cell, b1.frozen, b2.cell, b3.cell, b3.frozen, (Boxed.set _ b3).cell⟩
    have HAFT := hide haft
    have HX2 := hide (And.intro hmq (And.intro hsW (And.intro hWs hs2)))
    clear hW2 hmq haft hsW hWs hs2 bL1 bQ1 hcL1 hfL1 hQ1 hsD hK1 hcL hfL
    refine wpIn_wide.2 ?_
    refine wp_region_noPanic ?_
    refine wp_region_held_drew (S := fun W' : World => W'.cell? ⟨w.heap.size + 1, 0, none⟩ = some (.slice aD rs.length cD)) (by kernel_rfl) hcL2 (fun hHeld => ?_)
    simp only [List.size_toArray, List.length_cons, List.length_nil, Nat.reduceAdd]
    refine wpAnyH_take (i := 2) (v := ?_) rfl (by kernel_rfl) (by kernel_rfl) (by kernel_rfl) (fun _ _ _ h => h) (Or.inl ⟨by rfl, ?_⟩) (by assumption) ?_
    rotate_left
    · intro w hSw
      try dsimp only at hSw
      go_simp
      try with_reducible rfl
    simp only [Act.put, List.setIfInBounds_toArray, List.set_cons_zero, List.set_cons_succ, List.getElem_toArray, List.getElem_cons_zero, List.getElem_cons_succ]
    refine wpAnyH_ready (rs := [0]) (by kernel_rfl) (by simp) ?_
    refine AllReadyH.cons rfl (fun K hK => ?_) AllReadyH.nil
    go_simp
    refine hK.out _ _ ?_ (fun hHeld => ?_)
    · exact hcL2
    clear hK K
    try simp only [Act.put, List.setIfInBounds_toArray, List.set_cons_zero, List.set_cons_succ, List.getElem_toArray, List.getElem_cons_zero, List.getElem_cons_succ]
    refine wpAnyH_ready (rs := [1]) (by kernel_rfl) (by simp) ?_
    refine AllReadyH.cons rfl (fun K hK => ?_) AllReadyH.nil
    go_simp
    refine HQB.out.mono ?_
    rintro e W3 ⟨ts, rfl, hs3, hn3, hv3, hl3, hb3⟩
    obtain ⟨hcQ3, hfQ3, hcL3, hcL4, hfL4, hcL5⟩ := HAFT.out W3 (.slice (some ⟨w6.heap.size, 0, none⟩) ts.length m) hb3
    have HV3 := hide hv3
    clear hv3 hl3
    dsimp only
    refine hK.out _ _ ?_ (fun hHeld => ?_)
    · exact hcL3
    clear hK K
    try simp only [Act.put, List.setIfInBounds_toArray, List.set_cons_zero, List.set_cons_succ, List.getElem_toArray, List.getElem_cons_zero, List.getElem_cons_succ]
    refine wpAnyH_ready (rs := [3]) (by kernel_rfl) (by simp) ?_
    refine AllReadyH.cons rfl (fun K hK => ?_) AllReadyH.nil
    go_simp
    refine hK.out _ _ ?_ (fun hHeld => ?_)
    · exact hcL4
    clear hK K
    try simp only [Act.put, List.setIfInBounds_toArray, List.set_cons_zero, List.set_cons_succ, List.getElem_toArray, List.getElem_cons_zero, List.getElem_cons_succ]
    refine wpAnyH_ready (rs := [4]) (by kernel_rfl) (by simp) ?_
    refine AllReadyH.cons rfl (fun K hK => ?_) AllReadyH.nil
    go_simp
    refine hK.out _ _ ?_ (fun hHeld => ?_)
    · exact hcL5
    clear hK K
    try simp only [Act.put, List.setIfInBounds_toArray, List.set_cons_zero, List.set_cons_succ, List.getElem_toArray, List.getElem_cons_zero, List.getElem_cons_succ]
    refine wpAnyH_done (by kernel_rfl) ?_ _
    refine NoPanic.normal ?_
    gi_wp2_with fail
    obtain ⟨hmq, hsW, hWs, hs2⟩ := HX2.out
    have hb3' : Below W2.heap.size W2 W3 := (Below.refl _ W2).drew.trans (by exact hb3)
    have bQ3 := Boxed.aside (Boxed.set (.slice (some ⟨w6.heap.size, 0, none⟩) ts.length m) (Boxed.belowed bQ2 hb3' bQ2.lt)) (B' := w.heap.size + 1) (by omega) 0 (.slice aD rs.length cD)
    have bL3 := Boxed.set (.slice aD rs.length cD) (Boxed.aside (Boxed.belowed bL2 hb3' bL2.lt) (B' := w.heap.size) (by omega) 0 (.slice (some ⟨w6.heap.size, 0, none⟩) ts.length m))
    have hK3 := (KeepsOthers.setCell _ ⟨w.heap.size + 1, 0, none⟩ (.slice aD rs.length cD)).same D _ ((KeepsOthers.setCell W3 ⟨w.heap.size, 0, none⟩ (.slice (some ⟨w6.heap.size, 0, none⟩) ts.length m)).same D _ ((hb3'.block D (Array.getElem?_eq_some_iff.1 hK2).1).trans hK2) rfl) rfl
    have hQ3 := (hs3.aside (B := w.heap.size) (fun _ b o e => by cases e; have := HH.out; omega) 0 (.slice (some ⟨w6.heap.size, 0, none⟩) ts.length m)).aside (B := w.heap.size + 1) (fun _ b o e => by cases e; have := HH.out; omega) 0 (.slice aD rs.length cD)
    have hR3 := ((hsD2.below hb3').aside (B := w.heap.size) (fun h b o e => by
      obtain ⟨b', o', e2, h1, _⟩ := hsD2.row (List.length_pos_iff.2 h)
      rw [e] at e2; cases e2; omega) 0 (.slice (some ⟨w6.heap.size, 0, none⟩) ts.length m)).aside (B := w.heap.size + 1) (fun h b o e => by
      obtain ⟨b', o', e2, h1, _⟩ := hsD2.row (List.length_pos_iff.2 h)
      rw [e] at e2; cases e2; omega) 0 (.slice aD rs.length cD)
    have hB3 := ((hB2.trans (hb3'.mono hB2.size)).setCell (p := ⟨w.heap.size, 0, none⟩) (Nat.le_refl _) (.slice (some ⟨w6.heap.size, 0, none⟩) ts.length m)).setCell (p := ⟨w.heap.size + 1, 0, none⟩) (by show w.heap.size ≤ w.heap.size + 1; omega) (.slice aD rs.length cD)
    have hgr := grownBy_putObj' ((W3.setCell ⟨w.heap.size, 0, none⟩ (.slice (some ⟨w6.heap.size, 0, none⟩) ts.length m)).setCell ⟨w.heap.size + 1, 0, none⟩ (.slice aD rs.length cD)) D (.deferred none)
    have hrow : ∀ r, some D = some r → ∃ o : Obj, ((W3.setCell ⟨w.heap.size, 0, none⟩ (.slice (some ⟨w6.heap.size, 0, none⟩) ts.length m)).setCell ⟨w.heap.size + 1, 0, none⟩ (.slice aD rs.length cD)).heap[r]? = some o ∧ o.isCells = false := fun r e => by cases e; exact ⟨_, hK3, rfl⟩
    have hc1 := cell_kept bQ3.cell hgr hrow
    have hc2 := cell_kept bL3.cell hgr hrow
    refine ⟨by simp, .inl ⟨_, _, rfl, run_takeDeferred hK3, ?_⟩⟩
    refine ⟨.tuple #[(.slice (some ⟨w6.heap.size, 0, none⟩) ts.length m), (.slice aD rs.length cD)], ?_, _, _, _, _, ts, rs, rfl, hQ3.kept hgr hrow, (hR3.kept hgr hrow).mono (by omega), hn3, hnD, HV3.out.trans HR.out.1, ?_, ?_, hB3.trans (belowK_b (w := w) (Nat.le_refl _) _ D _ _ (by have := HH.out; omega) hK3 rfl rfl)⟩
    · simp [results, Tryz.f67, go_sem, hc1, hc2]
    · rw [HVD.out, HR.out.2, Int.mul_ediv_cancel _ (by have := two_pos s; omega)]
    · intro b1 o1 b2 o2 e1 e2 hne
      cases e1
      obtain ⟨b', o', e3, h1, _⟩ := hsD2.row (List.length_pos_iff.2 hne)
      rw [e2] at e3; cases e3; omega
  case stop =>
    rintro D c pre W _ _ h _
    exact h.elim
end Go.Proofs.YtejocefblpkdjabGreat
namespace Go.Proofs.YtejocefblpkdjabGreat
open Go.RowKit
theorem qpart_all {lo : Nat} {a : Option Addr} {la ca : Nat} {xs : List Int} {w : World} (ha : Seg lo w (.slice a la ca) xs) (hla : xs.length ≤ 1000) (x : Int) (hx : 0 ≤ x ∧ x < 18446744073709551616) :
    Calls Tryz.prog 66 #[.slice a la ca, .int .u64 x] w fun e w' => ∃ (a1 : Option Addr) (c1 : Nat) (qs : List Int), e = .returned (.tuple #[.slice a1 qs.length c1, .int .u64 (remZ (val xs) x), .int .i64 (errZ x)]) ∧ Seg w.heap.size w' (.slice a1 qs.length c1) qs ∧ Norm qs ∧ val qs = val xs / x ∧ Below w.heap.size w w' := by
  by_cases h : x = 0
  · subst h
    refine (partw_zero _ w).mono ?_
    rintro e w' ⟨rfl, hb⟩
    exact ⟨none, 0, [], rfl, Seg.nil _ _, norm_nil, by rw [Int.ediv_zero]; rfl, hb⟩
  · have hp : 0 < x := by omega
    refine (partw_yes ha (by omega) x ⟨hp, hx.2⟩).mono ?_
    rintro e w' ⟨a1, c1, qs, rfl, hq, nq, vq, _, hb⟩
    exact ⟨a1, c1, qs, by rw [errZ_pos hp, remZ_pos _ hp], hq, nq, vq, hb⟩
set_option maxRecDepth 100000 in
set_option maxHeartbeats 400000 in
theorem qdiv_all {lo lo' : Nat} {a b : Option Addr} {la lb ca cb : Nat} {xs ys : List Int} {w : World} (ha : Seg lo w (.slice a la ca) xs) (hb : Seg lo' w (.slice b lb cb) ys) (hla : xs.length ≤ 1000) (hlb : ys.length ≤ 1000) :
    Calls Tryz.prog 53 #[.slice a la ca, .slice b lb cb] w fun e w' => ∃ (a1 a2 : Option Addr) (c1 c2 : Nat) (qs rs : List Int), e = .returned (.tuple #[.slice a1 qs.length c1, .slice a2 rs.length c2, .int .i64 (errZ (val ys))]) ∧ Seg w.heap.size w' (.slice a1 qs.length c1) qs ∧ Seg w.heap.size w' (.slice a2 rs.length c2) rs ∧ Norm qs ∧ Norm rs ∧ val qs = val xs / val ys ∧ val rs = remZ (val xs) (val ys) ∧ Apart a1 a2 qs rs ∧ Below w.heap.size w w' := by
  have hy0 := val_nonneg hb.words
  have hx0 := val_nonneg ha.words
  by_cases hsm : val ys < 18446744073709551616
  · have hone := one_yes hb (by omega) hsm
    have hp := fun (W : World) (hW : Below w.heap.size w W) => qpart_all (ha.below hW) hla (val ys) ⟨hy0, hsm⟩
    have hrw := remZ_word (a := val xs) (x := val ys) ⟨hy0, hsm⟩
    have hof := fun W => of_any (remZ (val xs) (val ys)) hrw W
    generalize remZ (val xs) (val ys) = r at *
    go_enter Tryz.func53, Tryz.ntmps53
    go_wp2_with fail
    refine hone.mono ?_
    rintro e w1 ⟨rfl, hb1⟩
    go_wp2_with fail
    refine (hp w1 hb1).mono ?_
    rintro e w2 ⟨a2, c2, qs, rfl, hq2, hn2, hv2, hb2⟩
    have HV2 := hide hv2
    clear hv2 hone hp
    go_wp2_with fail
    refine (hof w2).mono ?_
    rintro e w3 ⟨a3, c3, rs, rfl, hs3, hn3, hv3, hl3, hb3⟩
    have HV3 := hide hv3
    have hb12 := hb1.trans (hb2.mono hb1.size)
    have hb13 := hb12.trans (hb3.mono hb12.size)
    have hap : Apart a2 a3 qs rs := apart_of (fun h b o e => hq2.block h b o e) hs3 (Nat.le_refl _)
    have HAP := hide hap
    clear hv3 hap
    go_wp2
    go_ret3
    exact ⟨_, _, _, _, qs, rs, rfl, (hq2.mono hb1.size).below hb3, hs3.mono hb12.size, hn2, hn3, HV2.out, HV3.out, HAP.out, hb13⟩
  · have hbig : 18446744073709551616 ≤ val ys := by omega
    have hone := one_no hb (by omega) hbig
    have hyp : 0 < val ys := by omega
    have HE : Hid (errZ (val ys) = 0) := errZ_pos hyp
    have HRM : Hid (remZ (val xs) (val ys) = val xs % val ys) := remZ_pos _ hyp
    have hcm := fun (W : World) (hW : Below w.heap.size w W) => cmp_any (ha.below hW) (hb.below hW) (by omega) (by omega)
    by_cases hlt : val xs < val ys
    · rw [cmpI_lt hlt] at hcm
      have htr := fun (W : World) (hW : Below w.heap.size w W) => trim_any (ha.below hW) (by omega)
      have HQ : Hid (val xs / val ys = 0 ∧ val xs % val ys = val xs) := ⟨Int.ediv_eq_zero_of_lt hx0 hlt, Int.emod_eq_of_lt hx0 hlt⟩
      clear hlt hbig hsm hyp hy0 hx0
      go_enter Tryz.func53, Tryz.ntmps53
      go_wp2_with fail
      refine hone.mono ?_
      rintro e w1 ⟨rfl, hb1⟩
      go_wp2_with fail
      refine (hcm w1 hb1).mono ?_
      rintro e w2 ⟨rfl, hb2⟩
      have hb12 := hb1.trans (hb2.mono hb1.size)
      have ht := htr w2 hb12
      clear hone hcm htr
      go_wp2_with fail
      refine ht.mono ?_
      rintro e w3 ⟨a3, c3, rs, rfl, hs3, hn3, hv3, hl3, hb3⟩
      have hb13 := hb12.trans (hb3.mono hb12.size)
      have HV3 := hide hv3
      clear hv3 ht
      go_wp2
      go_ret3
      exact ⟨none, _, 0, _, [], rs, by rw [HE.out]; rfl, Seg.nil _ _, hs3.mono hb12.size, norm_nil, hn3, by rw [HQ.out.1]; rfl, by rw [HV3.out, HRM.out, HQ.out.2], apart_nil_left _ _ _, hb13⟩
    · have hge : val ys ≤ val xs := by omega
      have hcc : ¬ cmpI (val xs) (val ys) < 0 := by
        unfold cmpI
        split
        · omega
        · split <;> omega
      have hlg := fun (W : World) (hW : Below w.heap.size w W) => long_any (ha.below hW) (hb.below hW) (by omega) (by omega) hbig hge
      clear hlt hbig hsm hyp hy0 hx0 hge
      generalize cmpI (val xs) (val ys) = cc at *
      go_enter Tryz.func53, Tryz.ntmps53
      go_wp2_with fail
      refine hone.mono ?_
      rintro e w1 ⟨rfl, hb1⟩
      go_wp2_with fail
      refine (hcm w1 hb1).mono ?_
      rintro e w2 ⟨rfl, hb2⟩
      have hb12 := hb1.trans (hb2.mono hb1.size)
      have ht := hlg w2 hb12
      clear hone hcm hlg
      go_wp2_with fail
      refine ht.mono ?_
      rintro e w3 ⟨a3, a4, c3, c4, qs, rs, rfl, hq3, hr3, nq, nr, vq, vr, hap, hb3⟩
      have hb13 := hb12.trans (hb3.mono hb12.size)
      have HVQ := hide vq
      have HVR := hide vr
      have HAP := hide hap
      clear vq vr ht hap
      go_wp2
      go_ret3
      exact ⟨_, _, _, _, qs, rs, by rw [HE.out]; rfl, hq3.mono hb12.size, hr3.mono hb12.size, nq, nr, HVQ.out, HVR.out.trans HRM.out.symm, fun _ h b1 o1 b2 o2 e1 e2 => HAP.out b1 o1 b2 o2 e1 e2 h, hb13⟩
set_option maxRecDepth 100000 in
set_option maxHeartbeats 400000 in
theorem smallGcd_any {lo : Nat} {a : Option Addr} {la ca : Nat} {xs : List Int} {w : World} (ha : Seg lo w (.slice a la ca) xs) (hla : xs.length ≤ 1000) (x : Int) (hx : 0 ≤ x ∧ x < 18446744073709551616) :
    Calls Tryz.prog 52 #[.slice a la ca, .int .u64 x] w fun e w' => ∃ (a1 : Option Addr) (c1 : Nat) (gs : List Int), e = .returned (.slice a1 gs.length c1) ∧ Seg w.heap.size w' (.slice a1 gs.length c1) gs ∧ Norm gs ∧ val gs = gcdI (val xs) x ∧ Below w.heap.size w w' := by
  have hx0 := val_nonneg ha.words
  by_cases h : x = 0
  · subst h
    have htr := fun (W : World) (hW : Below w.heap.size w W) => trim_any (ha.below hW) (by omega)
    have HG : Hid (gcdI (val xs) 0 = val xs) := gcdI_zero _ hx0
    go_enter Tryz.func52, Tryz.ntmps52
    go_wp2_with fail
    refine (partw_zero _ w).mono ?_
    rintro e w1 ⟨rfl, hb1⟩
    have ht := htr w1 hb1
    clear htr
    go_wp2_with fail
    refine ht.mono ?_
    rintro e w2 ⟨a2, c2, gs, rfl, hs2, hn2, hv2, hl2, hb2⟩
    have HV := hide hv2
    clear hv2 ht
    go_wp2
    go_ret
    exact ⟨_, _, gs, rfl, hs2.mono hb1.size, hn2, HV.out.trans HG.out.symm, hb1.trans (hb2.mono hb1.size)⟩
  · have hp : 0 < x := by omega
    have hpt := partw_yes ha (by omega) x ⟨hp, hx.2⟩
    have hr0 := Int.emod_nonneg (val xs) (show x ≠ 0 by omega)
    have hr1 := Int.emod_lt_of_pos (val xs) hp
    have HG := hide (gcdI_step hx0 hp)
    generalize val xs % x = r at *
    clear h
    go_enter Tryz.func52, Tryz.ntmps52
    go_wp2_with fail
    refine hpt.mono ?_
    rintro e w1 ⟨a1, c1, qs, rfl, hq, nq, vq, lq, hb1⟩
    clear hpt vq
    go_wp2
    go_loopw [1, 6] (fun xv yv wr => ∃ (u v : Int), xv = .int .u64 u ∧ yv = .int .u64 v ∧ (0 < u ∧ u < 18446744073709551616) ∧ (0 ≤ v ∧ v < u) ∧ Hid (gcdI u v = gcdI (val xs) x) ∧ Below w.heap.size w wr) (fun _ yv _ => (intOf yv).toNat)
    case atStart => exact ⟨x, r, rfl, rfl, ⟨hp, hx.2⟩, ⟨hr0, hr1⟩, HG, hb1⟩
    case round =>
      obtain ⟨u, v, rfl, rfl, hu, hv, HGv, hbr⟩ := hrel
      clear HG hr0 hr1 hp hx hq nq lq hb1
      by_cases hz : v = 0
      · subst hz
        have HF : Hid (u = gcdI (val xs) x) := by rw [Hid, ← HGv.out, gcdI_zero _ (by omega)]
        have hof := fun W => of_any u ⟨by omega, hu.2⟩ W
        clear hu hv
        go_wp2_with fail
        refine (hof _).mono ?_
        rintro e w2 ⟨a2, c2, gs, rfl, hs2, hn2, hv2, hl2, hb2⟩
        have HV := hide hv2
        clear hv2
        go_wp2
        go_ret
        exact ⟨_, _, gs, rfl, hs2.mono hbr.size, hn2, HV.out.trans HF.out, hbr.trans (hb2.mono hbr.size)⟩
      · have hvp : 0 < v := by omega
        have hne : (v == 0) = false := beq_eq_false_iff_ne.2 hz
        have HG2 : Hid (gcdI v (u % v) = gcdI (val xs) x) := by rw [Hid, gcdI_step (by omega) hvp]; exact HGv.out
        have HB : Hid ((0 ≤ u % v ∧ u % v < v) ∧ (0 < v ∧ v < 18446744073709551616)) := ⟨⟨Int.emod_nonneg _ (by omega), Int.emod_lt_of_pos _ hvp⟩, hvp, by omega⟩
        go_wp2
        go_region
        have hlt : (u % v).toNat < v.toNat := by have := HB.out; omega
        go_wp2
        exact ⟨⟨v, u % v, rfl, rfl, HB.out.2, HB.out.1, HG2, hbr.drew⟩, hlt⟩
set_option maxRecDepth 100000 in
set_option maxHeartbeats 400000 in
theorem qgcd_any {lo lo' : Nat} {a b : Option Addr} {la lb ca cb : Nat} {xs ys : List Int} {w : World} (ha : Seg lo w (.slice a la ca) xs) (hb : Seg lo' w (.slice b lb cb) ys) (hla : xs.length ≤ 1000) (hlb : ys.length ≤ 1000) :
    Calls Tryz.prog 36 #[.slice a la ca, .slice b lb cb] w fun e w' => ∃ (a1 : Option Addr) (c1 : Nat) (gs : List Int), e = .returned (.slice a1 gs.length c1) ∧ Seg w.heap.size w' (.slice a1 gs.length c1) gs ∧ Norm gs ∧ val gs = gcdI (val xs) (val ys) ∧ Below w.heap.size w w' := by
  obtain ⟨rfl, _⟩ := ha.len
  obtain ⟨rfl, _⟩ := hb.len
  go_enter Tryz.func36, Tryz.ntmps36
  go_wp2
  go_loopw [0, 1] (fun av bv wr => ∃ (l3 l4 : Nat) (a3 a4 : Option Addr) (c3 c4 : Nat) (us vs : List Int), av = .slice a3 us.length c3 ∧ bv = .slice a4 vs.length c4 ∧ Seg l3 wr (.slice a3 us.length c3) us ∧ Seg l4 wr (.slice a4 vs.length c4) vs ∧ Hid (gcdI (val us) (val vs) = gcdI (val xs) (val ys)) ∧ us.length ≤ 1000 ∧ vs.length ≤ 1000 ∧ Below w.heap.size w wr) (fun _ bv wr => (val (cellsOf wr bv)).toNat)
  case atStart => exact ⟨lo, lo', a, b, ca, cb, xs, ys, rfl, rfl, ha, hb, rfl, hla, hlb, Below.refl _ _⟩
  case round =>
    obtain ⟨l3, l4, a3, a4, c3, c4, us, vs, rfl, rfl, hu, hv, HG, lu, lv, hbr⟩ := hrel
    have hy0 := val_nonneg hv.words
    by_cases hsm : val vs < 18446744073709551616
    · have hone := one_yes hv (by omega) hsm
      have hp := fun (W : World) (hW : Below wr.heap.size wr W) => smallGcd_any (hu.below hW) lu (val vs) ⟨hy0, hsm⟩
      go_wp2_with fail
      refine hone.mono ?_
      rintro e w1 ⟨rfl, hb1⟩
      go_wp2_with fail
      refine (hp w1 hb1).mono ?_
      rintro e w2 ⟨a2, c2, gs, rfl, hs2, hn2, hv2, hb2⟩
      have HV := hide hv2
      clear hv2 hone hp
      go_wp2
      go_ret
      have hb3 := hbr.trans (hb1.mono hbr.size)
      exact ⟨_, _, gs, rfl, hs2.mono hb3.size, hn2, HV.out.trans HG.out, hb3.trans (hb2.mono hb3.size)⟩
    · have hbig : 18446744073709551616 ≤ val vs := by omega
      have hone := one_no hv (by omega) hbig
      have hp : 0 < val vs := by omega
      have hd := fun (W : World) (hW : Below wr.heap.size wr W) => qdiv_all (hu.below hW) (hv.below hW) lu lv
      rw [remZ_pos _ hp] at hd
      have HM0 : Hid (0 ≤ val us % val vs ∧ val us % val vs < val vs) := ⟨Int.emod_nonneg _ (by omega), Int.emod_lt_of_pos _ hp⟩
      have HS := hide (gcdI_step (val_nonneg hu.words) hp)
      have HCV := hide hv.cells
      have hwv := hv.words
      clear hsm hbig hp hy0
      go_wp2_with fail
      refine hone.mono ?_
      rintro e w1 ⟨rfl, hb1⟩
      have hd1 := hd w1 hb1
      clear hd hone
      go_wp2_with fail
      refine hd1.mono ?_
      rintro e w3 ⟨a5, a6, c5, c6, qs, rs, rfl, hq, hr, nq, nr, vq, vr, hap, hb3⟩
      have hrl : rs.length ≤ vs.length := len_below hr.words nr (by have := val_lt hwv; have := HM0.out; rw [vr]; omega)
      have HCR := hide hr.cells
      have HG' : Hid (gcdI (val vs) (val rs) = gcdI (val xs) (val ys)) := by rw [Hid, vr, HS.out, HG.out]
      have HM : Hid (0 ≤ val rs ∧ val rs < val vs) := by rw [Hid, vr]; exact HM0.out
      have hb13 := hb1.trans (hb3.mono hb1.size)
      have hv3 := hv.below hb13
      have hb4 := hbr.trans (hb13.mono hbr.size)
      clear hd1 vq vr hq hap
      go_wp2
      refine ⟨⟨_, _, a4, a6, c4, c6, vs, rs, rfl, rfl, hv3, hr, HG', lv, by omega, hb4⟩, ?_⟩
      rw [HCR.out, HCV.out]
      have := HM.out
      omega
theorem cut_val (zs : List Int) (p : Nat) : val zs = val (zs.take p) + pw p * val (zs.drop p) := by
  by_cases h : p ≤ zs.length
  · have := val_append (zs.take p) (zs.drop p)
    rw [List.take_append_drop, List.length_take, Nat.min_eq_left h] at this
    exact this
  · rw [List.take_of_length_le (by omega), List.drop_eq_nil_of_le (by omega), val_nil]; simp
theorem cut_le {zs : List Int} (hw : Words zs) (p : Nat) : 0 ≤ val (zs.take p) ∧ 0 ≤ val (zs.drop p) ∧ val (zs.take p) + val (zs.drop p) ≤ val zs := by
  have a := val_nonneg (hw.take p)
  have b := val_nonneg (hw.drop p)
  have e := cut_val zs p
  have q := pw_pos p
  have : 1 * val (zs.drop p) ≤ pw p * val (zs.drop p) := Int.mul_le_mul_of_nonneg_right (by omega) b
  omega
theorem cut_lt {zs : List Int} (hw : Words zs) (hn : Norm zs) {p : Nat} (h0 : 0 < p) (h : p < zs.length) : val (zs.take p) < val zs ∧ val (zs.drop p) < val zs ∧ val (zs.take p) + val (zs.drop p) < val zs := by
  have a := val_nonneg (hw.take p)
  have b := norm_pos (hw.drop p) (hn.drop p) (by intro e; have := congrArg List.length e; rw [List.length_drop] at this; simp at this; omega)
  have e := cut_val zs p
  have q := pw_mono (m := 1) (n := p) h0
  rw [show pw 1 = 18446744073709551616 from rfl] at q
  have : 2 * val (zs.drop p) ≤ pw p * val (zs.drop p) := Int.mul_le_mul_of_nonneg_right (by omega) (by omega)
  omega
theorem halves_val (la ha lb hb P : Int) : la * lb + P * P * (ha * hb) + P * ((la + ha) * (lb + hb) - la * lb - ha * hb) = (la + P * ha) * (lb + P * hb) := by
  have e : (la + ha) * (lb + hb) - la * lb - ha * hb = la * hb + ha * lb := by rw [Int.add_mul, Int.mul_add, Int.mul_add]; omega
  rw [e, Int.add_mul, Int.mul_add, Int.mul_add, Int.mul_add, Int.mul_left_comm la P hb, Int.mul_assoc P ha lb, show P * ha * (P * hb) = P * P * (ha * hb) by ac_rfl]
  omega
theorem cross_le {la ha lb hb : Int} (h1 : 0 ≤ la) (h2 : 0 ≤ ha) (h3 : 0 ≤ lb) (h4 : 0 ≤ hb) : la * lb + ha * hb ≤ (la + ha) * (lb + hb) := by
  have a := Int.mul_nonneg h1 h4
  have b := Int.mul_nonneg h2 h3
  rw [Int.add_mul, Int.mul_add, Int.mul_add]
  omega
theorem halves_total {vx vy la ha lb hb l h c cr : Int} {p : Nat} (e1 : vx = la + pw p * ha) (e2 : vy = lb + pw p * hb) (e3 : l = la * lb) (e4 : h = ha * hb) (e5 : cr = (la + ha) * (lb + hb)) (e6 : c = cr - l - h) : l + pw (2 * p) * h + pw p * c = vx * vy := by
  rw [e6, e5, e3, e4, e1, e2, show 2 * p = p + p by omega, pw_add]
  exact halves_val la ha lb hb (pw p)
theorem mul_fits {xs ys : List Int} (hx : Words xs) (hy : Words ys) : val xs * val ys < pw (xs.length + ys.length) := by
  have a := val_lt hx
  have b := val_lt hy
  have c := val_nonneg hy
  have d := pw_pos xs.length
  have e := Int.mul_le_mul_of_nonneg_right (Int.le_of_lt a) c
  have f := Int.mul_lt_mul_of_pos_left b d
  rw [pw_add]
  omega
theorem halves_facts {xs ys lA hA lB hB : List Int} {p mx : Nat} (hx : Words xs) (hy : Words ys) (nx : Norm xs) (ny : Norm ys) (hm : mx = max xs.length ys.length) (h0 : 0 < p) (h1 : p < mx) (h2 : mx ≤ 2 * p) (e1 : lA = xs.take p) (e2 : hA = xs.drop p) (e3 : lB = ys.take p) (e4 : hB = ys.drop p) :
    (val xs = val lA + pw p * val hA ∧ val ys = val lB + pw p * val hB) ∧ (0 ≤ val lA ∧ 0 ≤ val hA ∧ 0 ≤ val lB ∧ 0 ≤ val hB) ∧
      (val lA + val lB < val xs + val ys ∧ val hA + val hB < val xs + val ys ∧ val lA + val hA + (val lB + val hB) < val xs + val ys) ∧ (lA.length ≤ p ∧ hA.length ≤ p ∧ lB.length ≤ p ∧ hB.length ≤ p) ∧ (lA.length ≤ xs.length ∧ lB.length ≤ ys.length ∧ hA.length ≤ xs.length ∧ hB.length ≤ ys.length) := by
  subst e1 e2 e3 e4
  have a := cut_le hx p
  have b := cut_le hy p
  simp only [List.length_take, List.length_drop]
  refine ⟨⟨cut_val xs p, cut_val ys p⟩, ⟨a.1, a.2.1, b.1, b.2.1⟩, ?_, by omega, by omega⟩
  rcases Nat.lt_or_ge p xs.length with h | h
  · have := cut_lt hx nx h0 h
    omega
  · have := cut_lt hy ny h0 (by omega)
    omega
theorem cut_ex {lo : Nat} {b off len cap : Nat} {zs : List Int} {w : World} (h : Seg lo w (.slice (some ⟨b, off, none⟩) len cap) zs) (hl : len ≤ 10000) (place : Nat) (hp : place ≤ 10000) :
    Calls Tryz.prog 87 #[.slice (some ⟨b, off, none⟩) len cap, .int .i64 place] w fun e w' => ∃ (a1 a2 : Option Addr) (c1 c2 : Nat) (ls hs : List Int), e = .returned (.tuple #[.slice a1 ls.length c1, .slice a2 hs.length c2]) ∧
      Seg lo w' (.slice a1 ls.length c1) ls ∧ Seg lo w' (.slice a2 hs.length c2) hs ∧ Hid (ls = zs.take place ∧ hs = zs.drop place) ∧ Below w.heap.size w w' := by
  refine (cut_any h hl place hp).mono ?_
  rintro e w' ⟨c1, c2, a2, rfl, h1, h2, hb⟩
  exact ⟨_, a2, c1, c2, zs.take place, zs.drop place, rfl, h1, h2, ⟨rfl, rfl⟩, hb⟩
set_option maxRecDepth 100000 in
set_option maxHeartbeats 4000000 in
theorem halves_any (bL bH least : Nat) (hleast : 2 ≤ least ∧ least ≤ 1000) : ∀ (N : Nat) {lo lo' : Nat} {sa sb : Value} {xs ys : List Int} {w : World}, Seg lo w sa xs → Seg lo' w sb ys → xs.length ≤ 4000 → ys.length ≤ 4000 → val xs + val ys < (N : Int) →
    bL < w.heap.size → bH < w.heap.size → w.cell? ⟨bL, 0, none⟩ = some (.int .i64 least) → w.cell? ⟨bH, 0, none⟩ = some (.func (.func 84) #[] #[.pointer (some ⟨bL, 0, none⟩), .pointer (some ⟨bH, 0, none⟩)]) →
    Calls Tryz.prog 84 #[sa, sb, .pointer (some ⟨bL, 0, none⟩), .pointer (some ⟨bH, 0, none⟩)] w fun e w' => ∃ (a : Option Addr) (cap : Nat) (zs : List Int), e = .returned (.slice a zs.length cap) ∧ Seg w.heap.size w' (.slice a zs.length cap) zs ∧ Norm zs ∧ val zs = val xs * val ys ∧ zs.length ≤ xs.length + ys.length ∧ Below w.heap.size w w'
  | 0, lo, lo', sa, sb, xs, ys, w, ha, hb, hla, hlb, hN, _, _, _, _ => by
    have := val_nonneg ha.words; have := val_nonneg hb.words; omega
  | N + 1, lo, lo', sa, sb, xs, ys, w, ha, hb, hla, hlb, hN, hbL, hbH, hcL, hcH => by
    have IH := @halves_any bL bH least hleast N
    have HN := hide hN
    clear hN
    go_enter Tryz.func84, Tryz.ntmps84
    go_wp2_with fail
    refine (tbare_any ha (by omega)).mono ?_
    rintro e w1 ⟨a1, cap1, xs1, rfl, hs1, hn1, hv1, hl1, hb1⟩
    go_wp2_with fail
    refine (tbare_any (hb.below hb1) (by omega)).mono ?_
    rintro e w2 ⟨a2, cap2, ys2, rfl, hs2, hn2, hv2, hl2, hb2⟩
    replace hs1 := hs1.below hb2
    have hb12 : Below w.heap.size w w2 := hb1.trans (hb2.mono hb1.size)
    have HV : Hid (val xs1 = val xs ∧ val ys2 = val ys) := ⟨hv1, hv2⟩
    replace hcL := (hb12.cell (p := ⟨bL, 0, none⟩) hbL).trans hcL
    replace hcH := (hb12.cell (p := ⟨bH, 0, none⟩) hbH).trans hcH
    replace hbL : bL < w2.heap.size := Nat.lt_of_lt_of_le hbL hb12.size
    replace hbH : bH < w2.heap.size := Nat.lt_of_lt_of_le hbH hb12.size
    clear hv1 hv2 hb2 hb1 ha hb
    obtain ⟨mn, hmn⟩ : ∃ mn : Nat, mn = min xs1.length ys2.length := ⟨_, rfl⟩
    obtain ⟨mx, hmx⟩ : ∃ mx : Nat, mx = max xs1.length ys2.length := ⟨_, rfl⟩
    have hmin : min (xs1.length : Int) (ys2.length : Int) = (mn : Int) := by omega
    have hmax : max (xs1.length : Int) (ys2.length : Int) = (mx : Int) := by omega
    have HM : Hid (mn = min xs1.length ys2.length ∧ mx = max xs1.length ys2.length) := ⟨hmn, hmx⟩
    clear hmn hmx
    by_cases hls : mn < least
    · have hlsI : (mn : Int) < (least : Int) := by omega
      go_wp2_with fail
      refine (school_any hs1 hs2 (by omega) (by omega)).mono ?_
      rintro e w3 ⟨a3, cap3, zs, rfl, hs3, hn3, hv3, hl3, hb3⟩
      have HV3 : Hid (val zs = val xs * val ys) := by rw [Hid, hv3, HV.out.1, HV.out.2]
      clear hv3
      go_wp2
      go_ret
      exact ⟨_, _, zs, rfl, hs3.mono hb12.size, hn3, HV3.out, by omega, hb12.trans (hb3.mono hb12.size)⟩
    · have hlsI : ¬ (mn : Int) < (least : Int) := by omega
      have hml : mn ≤ xs1.length ∧ mn ≤ ys2.length ∧ xs1.length ≤ mx ∧ ys2.length ≤ mx ∧ mx ≤ 4000 := by have := HM.out; omega
      obtain ⟨p, hp⟩ : ∃ p : Nat, p = (mx + 1) / 2 := ⟨_, rfl⟩
      have hp1 : 0 < p ∧ p < mx ∧ p + 1 ≤ mx ∧ mx ≤ 2 * p := by omega
      have hq : ((mx : Int) + 1) / 2 = (p : Int) := by omega
      clear hp
      obtain ⟨g1, o1, rfl, _, _⟩ := hs1.row (by omega)
      obtain ⟨g2, o2, rfl, _, _⟩ := hs2.row (by omega)
      have hct1 := cut_ex hs1 (by omega) p (by omega)
      go_wp2_with fail
      refine hct1.mono ?_
      rintro e w3 ⟨q1, q2, c1, c2, lA, hA, rfl, hlA, hhA, HA, hb3⟩
      have hct2 := cut_ex (hs2.below hb3) (by omega) p (by omega)
      clear hct1
      go_wp2_with fail
      refine hct2.mono ?_
      rintro e w4 ⟨q3, q4, c3, c4, lB, hB, rfl, hlB, hhB, HB, hb4⟩
      replace hlA := hlA.below hb4
      replace hhA := hhA.below hb4
      have hb24 : Below w2.heap.size w2 w4 := hb3.trans (hb4.mono hb3.size)
      replace hcL := (hb24.cell (p := ⟨bL, 0, none⟩) hbL).trans hcL
      replace hcH := (hb24.cell (p := ⟨bH, 0, none⟩) hbH).trans hcH
      replace hbL : bL < w4.heap.size := Nat.lt_of_lt_of_le hbL hb24.size
      replace hbH : bH < w4.heap.size := Nat.lt_of_lt_of_le hbH hb24.size
      obtain ⟨HVC, h0s, HD, hpl, hxl⟩ := halves_facts hs1.words hs2.words hn1 hn2 HM.out.2 hp1.1 hp1.2.1 hp1.2.2.2 HA.out.1 HA.out.2 HB.out.1 HB.out.2
      have HVC := hide HVC
      have H0S := hide h0s
      have HD : Hid (val lA + val lB < (N : Int) ∧ val hA + val hB < (N : Int) ∧ val lA + val hA + (val lB + val hB) < (N : Int)) := by have := HV.out; have := HN.out; rw [Hid]; omega
      have hb4w : Below w.heap.size w w4 := hb12.trans (hb24.mono hb12.size)
      have HW := hide (mul_fits hs1.words hs2.words)
      clear hct2 hs1 hs2 hn1 hn2 HA HB hb3 hb4 hb24 h0s
      have hlow : ∀ W, Below w4.heap.size w4 W → Calls Tryz.prog 84 #[.slice q1 lA.length c1, .slice q3 lB.length c3, .pointer (some ⟨bL, 0, none⟩), .pointer (some ⟨bH, 0, none⟩)] W fun e w' => ∃ (a : Option Addr) (cap : Nat) (zs : List Int), e = .returned (.slice a zs.length cap) ∧ Seg W.heap.size w' (.slice a zs.length cap) zs ∧ Norm zs ∧ Hid (val zs = val lA * val lB) ∧ zs.length ≤ lA.length + lB.length ∧ Below W.heap.size W w' := fun W hW =>
        IH (hlA.below hW) (hlB.below hW) (by omega) (by omega) HD.out.1 (Nat.lt_of_lt_of_le hbL hW.size) (Nat.lt_of_lt_of_le hbH hW.size) ((hW.cell (p := ⟨bL, 0, none⟩) hbL).trans hcL) ((hW.cell (p := ⟨bH, 0, none⟩) hbH).trans hcH)
      have hhigh : ∀ W, Below w4.heap.size w4 W → Calls Tryz.prog 84 #[.slice q2 hA.length c2, .slice q4 hB.length c4, .pointer (some ⟨bL, 0, none⟩), .pointer (some ⟨bH, 0, none⟩)] W fun e w' => ∃ (a : Option Addr) (cap : Nat) (zs : List Int), e = .returned (.slice a zs.length cap) ∧ Seg W.heap.size w' (.slice a zs.length cap) zs ∧ Norm zs ∧ Hid (val zs = val hA * val hB) ∧ zs.length ≤ hA.length + hB.length ∧ Below W.heap.size W w' := fun W hW =>
        IH (hhA.below hW) (hhB.below hW) (by omega) (by omega) HD.out.2.1 (Nat.lt_of_lt_of_le hbL hW.size) (Nat.lt_of_lt_of_le hbH hW.size) ((hW.cell (p := ⟨bL, 0, none⟩) hbL).trans hcL) ((hW.cell (p := ⟨bH, 0, none⟩) hbH).trans hcH)
      go_wp2_with fail
      go_cut [12, 13] from 48 (fun v12 v13 wx => ∃ (a5 a6 : Option Addr) (k5 k6 : Nat) (lw hg : List Int), v12 = .slice a5 lw.length k5 ∧ v13 = .slice a6 hg.length k6 ∧ Seg w4.heap.size wx (.slice a5 lw.length k5) lw ∧ Seg w4.heap.size wx (.slice a6 hg.length k6) hg ∧ Norm lw ∧ Norm hg ∧ Hid (val lw = val lA * val lB) ∧ Hid (val hg = val hA * val hB) ∧ lw.length ≤ lA.length + lB.length ∧ hg.length ≤ hA.length + hB.length ∧ Below w4.heap.size w4 wx)
      case first =>
        go_region_with (first
          | (go_at_call 84
             refine (hlow _ ?_).mono ?_
             exact ⟨rfl, rfl, rfl, Nat.le_refl _, fun _ _ => rfl⟩
             rintro e w5 ⟨a5, k5, lw, rfl, hs5, hn5, HV5, hl5, hb5⟩
             have hb5' : Below w4.heap.size w4 w5 := ⟨hb5.1, hb5.2, hb5.3, hb5.4, hb5.5⟩
             have hcH5 := (hb5'.cell (p := ⟨bH, 0, none⟩) hbH).trans hcH
             clear hb5 hlow)
          | (go_at_call 84
             refine (hhigh _ ?_).mono ?_
             exact ⟨hb5'.1, hb5'.2, hb5'.3, hb5'.4, hb5'.5⟩
             rintro e w6 ⟨a6, k6, hg, rfl, hs6, hn6, HV6, hl6, hb6⟩
             have hb6' : Below w5.heap.size w5 w6 := ⟨hb6.1, hb6.2, hb6.3, hb6.4, hb6.5⟩
             clear hb6))
        all_goals
          go_wp2_with fail
          go_meet
          case rel =>
            exact ⟨a5, a6, k5, k6, lw, hg, rfl, rfl, hs5.below ⟨hb6'.1, hb6'.2, hb6'.3, hb6'.4, hb6'.5⟩, hs6.mono hb5'.size, hn5, hn6, HV5, HV6, hl5, hl6, hb5'.trans (hb6'.mono hb5'.size)⟩
      case rest =>
        obtain ⟨a5, a6, k5, k6, lw, hg, rfl, rfl, hs5, hs6, hn5, hn6, HV5, HV6, hl5, hl6, hbc⟩ := hcut
        obtain ⟨wd, hwd⟩ : ∃ wd, wd = wc := ⟨_, rfl⟩
        subst hwd
        have hcHc := (hbc.cell (p := ⟨bH, 0, none⟩) hbH).trans hcH
        have hsumA : ∀ W, Below w4.heap.size w4 W → Calls Tryz.prog 75 #[.slice q1 lA.length c1, .slice q2 hA.length c2] W fun e w' => ∃ (a : Option Addr) (cap : Nat) (zs : List Int), e = .returned (.slice a zs.length cap) ∧ Seg W.heap.size w' (.slice a zs.length cap) zs ∧ Norm zs ∧ Hid (val zs = val lA + val hA) ∧ zs.length ≤ max lA.length hA.length + 1 ∧ Below W.heap.size W w' := fun W hW =>
          add_any (hlA.below hW) (hhA.below hW) (by omega) (by omega)
        have hsumB : ∀ W, Below w4.heap.size w4 W → Calls Tryz.prog 75 #[.slice q3 lB.length c3, .slice q4 hB.length c4] W fun e w' => ∃ (a : Option Addr) (cap : Nat) (zs : List Int), e = .returned (.slice a zs.length cap) ∧ Seg W.heap.size w' (.slice a zs.length cap) zs ∧ Norm zs ∧ Hid (val zs = val lB + val hB) ∧ zs.length ≤ max lB.length hB.length + 1 ∧ Below W.heap.size W w' := fun W hW =>
          add_any (hlB.below hW) (hhB.below hW) (by omega) (by omega)
        clear hlow hhigh
        go_wp2_with fail
        go_cut [14] from 56 (fun v14 wx => ∃ (a9 : Option Addr) (k9 : Nat) (cr : List Int), v14 = .slice a9 cr.length k9 ∧ Seg wd.heap.size wx (.slice a9 cr.length k9) cr ∧ Norm cr ∧ Hid (val cr = (val lA + val hA) * (val lB + val hB)) ∧ cr.length ≤ 9000 ∧ Below wd.heap.size wd wx)
        case first =>
          go_region_with (first
            | (go_at_call 75
               refine (hsumA _ ?_).mono ?_
               exact ⟨hbc.1, hbc.2, hbc.3, hbc.4, hbc.5⟩
               rintro e w7 ⟨a7, k7, sA, rfl, hs7, hn7, HV7, hl7, hb7⟩
               have hb7' : Below wd.heap.size wd w7 := ⟨hb7.1, hb7.2, hb7.3, hb7.4, hb7.5⟩
               have hb47 : Below w4.heap.size w4 w7 := hbc.trans (hb7'.mono hbc.size)
               have hcH7 := (hb47.cell (p := ⟨bH, 0, none⟩) hbH).trans hcH
               clear hb7 hsumA)
            | (go_at_call 75
               refine (hsumB _ ?_).mono ?_
               exact hb47
               rintro e w8 ⟨a8, k8, sB, rfl, hs8, hn8, HV8, hl8, hb8⟩
               have hb48 : Below w4.heap.size w4 w8 := hb47.trans (hb8.mono hb47.size)
               have hcH8 := (hb48.cell (p := ⟨bH, 0, none⟩) hbH).trans hcH
               have hcL8 := (hb48.cell (p := ⟨bL, 0, none⟩) hbL).trans hcL
               have hcr := IH (hs7.below hb8) hs8 (by omega) (by omega) (by rw [HV7.out, HV8.out]; exact HD.out.2.2) (Nat.lt_of_lt_of_le hbL hb48.size) (Nat.lt_of_lt_of_le hbH hb48.size) hcL8 hcH8
               clear hsumB)
            | (go_at_call 84
               refine hcr.mono ?_
               rintro e w9 ⟨a9, k9, cr, rfl, hs9, hn9, hv9, hl9, hb9⟩
               have HV9 : Hid (val cr = (val lA + val hA) * (val lB + val hB)) := by rw [Hid, hv9, HV7.out, HV8.out]
               clear hv9 hcr))
          all_goals
            go_wp2_with fail
            go_meet
            case rel =>
              exact ⟨a9, k9, cr, rfl, hs9.mono (Nat.le_trans hb7'.size hb8.size), hn9, HV9, by omega, hb7'.trans ((hb8.trans (hb9.mono hb8.size)).mono hb7'.size)⟩
        case rest =>
          obtain ⟨a9, k9, cr, rfl, hs9, hn9, HV9, hl9, hb9⟩ := hcut
          have hb4c : Below w4.heap.size w4 wc := hbc.trans (hb9.mono hbc.size)
          have hcx := cross_any hs9 (hs5.below hb9) (hs6.below hb9) (by omega) (by omega) (by omega) (by rw [HV5.out, HV6.out, HV9.out]; exact cross_le H0S.out.1 H0S.out.2.1 H0S.out.2.2.1 H0S.out.2.2.2)
          clear hsumA hsumB hcHc IH
          go_wp2_with fail
          refine hcx.mono ?_
          rintro e w10 ⟨a10, k10, cs, rfl, hs10, hn10, hv10, hl10, hb10⟩
          have HT := hide (halves_total HVC.out.1 HVC.out.2 HV5.out HV6.out HV9.out hv10)
          have hj := join_any ((hs5.below hb9).below hb10) hs10 ((hs6.below hb9).below hb10) hn10 hn6 p (xs1.length + ys2.length) (by omega) (by omega) (by omega) (by omega) (by omega) (by omega) (by rw [HT.out]; exact HW.out)
          rw [HT.out, Int.natCast_add] at hj
          clear hcx hv10
          go_wp2_with fail
          refine hj.mono ?_
          rintro e w11 ⟨a11, k11, zs, rfl, hs11, hn11, hv11, hl11, hb11⟩
          have HV11 : Hid (val zs = val xs * val ys) := by rw [Hid, hv11, HV.out.1, HV.out.2]
          have hbw10 : Below w.heap.size w w10 := hb4w.trans ((hb4c.trans (hb10.mono hb4c.size)).mono hb4w.size)
          clear hv11 hj
          go_wp2
          go_ret
          exact ⟨_, _, zs, rfl, hs11.mono hbw10.size, hn11, HV11.out, by omega, hbw10.trans (hb11.mono hbw10.size)⟩
end Go.Proofs.YtejocefblpkdjabGreat
